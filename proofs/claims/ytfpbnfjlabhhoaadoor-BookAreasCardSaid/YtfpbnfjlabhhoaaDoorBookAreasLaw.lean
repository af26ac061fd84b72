/- The walk of the law BookAreas. -/
import Derived.Test.YtfpbnfjlabhhoaaDoorLbJ
namespace Go.Proofs.YtfpbnfjlabhhoaaDoor
open Go.RowKit
attribute [local irreducible] shaL

set_option maxRecDepth 100000 in
set_option maxHeartbeats 3200000 in
theorem areas_bad (f c : Int) (w : World) (hr : ShaReady w) (hf : -9223372036854775808 ≤ f ∧ f ≤ 9223372036854775807) (hc : -9223372036854775808 ≤ c ∧ c ≤ 9223372036854775807) (h : c < 8 ∨ f < 0 ∨ (20 : Int) - c < f) :
    Calls Tryd.prog 3 #[.int .i64 f, .int .i64 c] w fun e w' => e = .returned (.bool true) ∧ Below w.heap.size w w' := by
  have HSP := Lib.hid (lb_speaks w hr)
  have HNEW : Hid (∀ w1, w.grownBy w1 none → Calls Tryd.prog 5 #[.int .i64 20] w1 fun e w' => ∃ b, e = .returned (.tuple #[.pointer (some ⟨b, 0, none⟩), .int .i64 0]) ∧ KDisk w.heap.size [] w' b (newD 20) ∧ w1.grownBy w' none) :=
    fun w1 g => new_k (n0 := w.heap.size) (X := []) 20 (by decide) (by decide) w1 (by simp) g.size
  have HBAD : Hid (∀ w2 b, KDisk w.heap.size [] w2 b (newD 20) → Calls Tryd.prog 6 #[.pointer (some ⟨b, 0, none⟩), .int .i64 f, .int .i64 c] w2 fun e w' => e = .returned (.tuple #[.pointer none, .int .i64 1]) ∧ w2.grownBy w' none) :=
    fun w2 b hD => open_bad _ b (newD 20) f c w2 hD (by decide) hc.2 h
  clear hr
  have hcase : c < 8 ∨ (8 ≤ c ∧ f < 0) ∨ (8 ≤ c ∧ 0 ≤ f ∧ 20 < c) ∨ (8 ≤ c ∧ 0 ≤ f ∧ c ≤ 20 ∧ 20 - c < f) := by omega
  rcases hcase with h1 | ⟨h1, h2⟩ | ⟨h1, h2, h3⟩ | ⟨h1, h2, h3, h4⟩
  · have q1 : ¬ (8 : Int) ≤ c := by omega
    clear h
    go_enter Tryd.func3, Tryd.ntmps3
    go_wp2_with fail
    refine HSP.out.mono ?_
    rintro e w1 ⟨rfl, g1⟩
    go_wp2_with fail
    refine (HNEW.out w1 g1).mono ?_
    rintro e w2 ⟨b, rfl, hD, g2⟩
    have HOB := Lib.hid (HBAD.out w2 b hD)
    have HG2 := Lib.hid (grownBy_trans g1 g2)
    clear hD g1 g2
    go_wp2_with fail
    refine HOB.out.mono ?_
    rintro e w3 ⟨rfl, g3⟩
    go_wp2_with fail
    refine (open_nil 0 8 _).mono ?_
    rintro e v0 ⟨rfl, k0⟩
    go_wp2_with fail
    refine (bput_nil _ _).mono ?_
    rintro e v1 ⟨rfl, rfl⟩
    go_wp2_with fail
    refine (bcompact_nil _ _).mono ?_
    rintro e v2 ⟨rfl, rfl⟩
    go_wp2_with fail
    refine (left_nil _).mono ?_
    rintro e v3 ⟨rfl, rfl⟩
    go_wp2_with fail
    refine (records_nil _).mono ?_
    rintro e v4 ⟨rfl, rfl⟩
    go_wp2_with fail
    go_ret
    exact ⟨rfl, below_grownBy (grownBy_trans HG2.out (grownBy_trans g3 k0))⟩
  · have q1 : ¬ (0 : Int) ≤ f := by omega
    clear h
    go_enter Tryd.func3, Tryd.ntmps3
    go_wp2_with fail
    refine HSP.out.mono ?_
    rintro e w1 ⟨rfl, g1⟩
    go_wp2_with fail
    refine (HNEW.out w1 g1).mono ?_
    rintro e w2 ⟨b, rfl, hD, g2⟩
    have HOB := Lib.hid (HBAD.out w2 b hD)
    have HG2 := Lib.hid (grownBy_trans g1 g2)
    clear hD g1 g2
    go_wp2_with fail
    refine HOB.out.mono ?_
    rintro e w3 ⟨rfl, g3⟩
    go_wp2_with fail
    refine (open_nil 0 8 _).mono ?_
    rintro e v0 ⟨rfl, k0⟩
    go_wp2_with fail
    refine (bput_nil _ _).mono ?_
    rintro e v1 ⟨rfl, rfl⟩
    go_wp2_with fail
    refine (bcompact_nil _ _).mono ?_
    rintro e v2 ⟨rfl, rfl⟩
    go_wp2_with fail
    refine (left_nil _).mono ?_
    rintro e v3 ⟨rfl, rfl⟩
    go_wp2_with fail
    refine (records_nil _).mono ?_
    rintro e v4 ⟨rfl, rfl⟩
    go_wp2_with fail
    go_ret
    exact ⟨rfl, below_grownBy (grownBy_trans HG2.out (grownBy_trans g3 k0))⟩
  · have q1 : ¬ c ≤ (20 : Int) := by omega
    clear h
    go_enter Tryd.func3, Tryd.ntmps3
    go_wp2_with fail
    refine HSP.out.mono ?_
    rintro e w1 ⟨rfl, g1⟩
    go_wp2_with fail
    refine (HNEW.out w1 g1).mono ?_
    rintro e w2 ⟨b, rfl, hD, g2⟩
    have HOB := Lib.hid (HBAD.out w2 b hD)
    have HG2 := Lib.hid (grownBy_trans g1 g2)
    clear hD g1 g2
    go_wp2_with fail
    refine HOB.out.mono ?_
    rintro e w3 ⟨rfl, g3⟩
    go_wp2_with fail
    refine (open_nil 0 8 _).mono ?_
    rintro e v0 ⟨rfl, k0⟩
    go_wp2_with fail
    refine (bput_nil _ _).mono ?_
    rintro e v1 ⟨rfl, rfl⟩
    go_wp2_with fail
    refine (bcompact_nil _ _).mono ?_
    rintro e v2 ⟨rfl, rfl⟩
    go_wp2_with fail
    refine (left_nil _).mono ?_
    rintro e v3 ⟨rfl, rfl⟩
    go_wp2_with fail
    refine (records_nil _).mono ?_
    rintro e v4 ⟨rfl, rfl⟩
    go_wp2_with fail
    go_ret
    exact ⟨rfl, below_grownBy (grownBy_trans HG2.out (grownBy_trans g3 k0))⟩
  · have q1 : ¬ f ≤ (20 : Int) - c := by omega
    have q0 : decide (f ≤ (20 : Int) - c) = false := decide_eq_false q1
    have q2 : -9223372036854775808 ≤ (20 : Int) - c := by omega
    have q3 : (20 : Int) - c ≤ 100 := by omega
    clear h
    go_enter Tryd.func3, Tryd.ntmps3
    go_wp2_with fail
    refine HSP.out.mono ?_
    rintro e w1 ⟨rfl, g1⟩
    go_wp2_with fail
    refine (HNEW.out w1 g1).mono ?_
    rintro e w2 ⟨b, rfl, hD, g2⟩
    have HOB := Lib.hid (HBAD.out w2 b hD)
    have HG2 := Lib.hid (grownBy_trans g1 g2)
    clear hD g1 g2
    go_wp2_with fail
    refine HOB.out.mono ?_
    rintro e w3 ⟨rfl, g3⟩
    go_wp2_with fail
    refine (open_nil 0 8 _).mono ?_
    rintro e v0 ⟨rfl, k0⟩
    go_wp2_with fail
    refine (bput_nil _ _).mono ?_
    rintro e v1 ⟨rfl, rfl⟩
    go_wp2_with fail
    refine (bcompact_nil _ _).mono ?_
    rintro e v2 ⟨rfl, rfl⟩
    go_wp2_with fail
    refine (left_nil _).mono ?_
    rintro e v3 ⟨rfl, rfl⟩
    go_wp2_with fail
    refine (records_nil _).mono ?_
    rintro e v4 ⟨rfl, rfl⟩
    go_wp2_with fail
    go_ret
    exact ⟨rfl, below_grownBy (grownBy_trans HG2.out (grownBy_trans g3 k0))⟩

theorem takes_failed (B : BookS) (s : ByteArray) (h : B.failed = true) (hs : s.size ≤ 900) : takesI B s = 21 := by
  unfold takesI
  rw [if_neg (by omega), h]
  rfl
theorem put_cut (B : BookS) (D : DiskS) (s : ByteArray) (hf : B.failed = false) (hs : s.size ≤ 900) (hl : partsN s.size ≤ B.size - B.used) (h : D.fuse = 0) : putS B D s = (8, { B with failed := true }, cutD D D.keep) := by
  have ht : takesI B s = 0 := by unfold takesI; rw [if_neg (by omega), hf]; rfl
  have hw : ∀ (L : List ByteArray) i, writesS D i L = (8, cutD D D.keep) := by
    intro L i
    cases L with
    | nil => rw [writesS, if_pos h]
    | cons s r => rw [writesS, if_pos h]
  unfold putS
  rw [if_neg (by omega), if_neg (by omega)]
  unfold layS
  rw [hw]
  rfl
theorem put_failed (B : BookS) (D : DiskS) (s : ByteArray) (h : B.failed = true) (hs : s.size ≤ 900) : putS B D s = (21, B, D) := by
  unfold putS
  rw [takes_failed B s h hs]
  rfl
theorem compact_failed (B : BookS) (D : DiskS) (s : ByteArray) (h : B.failed = true) (hs : s.size ≤ 900) : compactS B D s = (21, B, D) := by
  unfold compactS
  rw [takes_failed B s h hs]
  rfl


theorem bput_no (w : World) (g b : Nat) (B : BookS) (rv : Value) (h : BookMem w g b B rv) (s : ByteArray) (hs : s.size ≤ maxLen) (ht0 : takesI B s ≠ 0) :
    Calls Tryd.prog 7 #[.pointer (some ⟨g, 0, none⟩), .string s] w fun e w' => e = .returned (.int .i64 (takesI B s)) ∧ w = w' := by
  have HT := Lib.hid (takes_any w g b B rv h s hs)
  have e1 : (takesI B s != 0) = true := by simpa using ht0
  generalize takesI B s = T at HT e1 ⊢
  clear h ht0
  go_enter Tryd.func7, Tryd.ntmps7
  go_wp2_with fail
  refine HT.out.mono ?_
  rintro e w1 ⟨rfl, rfl⟩
  go_wp2_with fail
  go_ret
  exact ⟨rfl, rfl⟩
theorem bcompact_no (w : World) (g b : Nat) (B : BookS) (rv : Value) (h : BookMem w g b B rv) (s : ByteArray) (hs : s.size ≤ maxLen) (ht0 : takesI B s ≠ 0) :
    Calls Tryd.prog 8 #[.pointer (some ⟨g, 0, none⟩), .string s] w fun e w' => e = .returned (.int .i64 (takesI B s)) ∧ w = w' := by
  have HT := Lib.hid (takes_any w g b B rv h s hs)
  have e1 : (takesI B s != 0) = true := by simpa using ht0
  generalize takesI B s = T at HT e1 ⊢
  clear h ht0
  go_enter Tryd.func8, Tryd.ntmps8
  go_wp2_with fail
  refine HT.out.mono ?_
  rintro e w1 ⟨rfl, rfl⟩
  go_wp2_with fail
  go_ret
  exact ⟨rfl, rfl⟩
/-- the disk of a book, and back -/
theorem KBookAt.fused {n0 : Nat} {X : List Nat} {w w' : World} {g b : Nat} {B : BookS} {D E : DiskS} {rv : Value} (h : KBookAt n0 X w g b B D rv) (hd : KDisk n0 (ownB rv ++ g :: X) w' b E) (t : Turn (rest n0 (ownB rv ++ g :: X)) w w') : KBookAt n0 X w' g b B E rv :=
  ⟨h.mem.turned t (fun q => q.2 (by simp)) (fun x e q => q.2 (by simp only [List.mem_append]; exact .inl (ownB_mem.2 e))), h.gn, h.gX, h.rn, hd⟩
set_option maxRecDepth 100000 in
set_option maxHeartbeats 6400000 in
theorem areas_good (f c : Nat) (w : World) (hr : ShaReady w) (h8 : 8 ≤ c) (hfc : f + c ≤ 20) :
    Calls Tryd.prog 3 #[.int .i64 f, .int .i64 c] w fun e w' => e = .returned (.bool true) ∧ Below w.heap.size w w' := by
  have HR := Lib.hid hr
  have HSX := Lib.hid hr.lt
  have HSP := Lib.hid (lb_speaks w hr)
  obtain ⟨z, hz⟩ : ∃ z, c / 2 = z := ⟨_, rfl⟩
  have q1 : (8 : Int) ≤ (c : Int) := by omega
  have q2 : (0 : Int) ≤ (f : Int) := by omega
  have q3 : (c : Int) ≤ 20 := by omega
  have q4 : (f : Int) ≤ 20 - (c : Int) := by omega
  have q5 : (20 : Int) - (c : Int) ≤ 100 := by omega
  have q6 : (0 : Int) ≤ 20 - (c : Int) := by omega
  have HZ := Lib.hid (And.intro hz (And.intro h8 hfc))
  have hz4 : 4 ≤ z := by omega
  have hz2 : f + 2 * z ≤ 20 := by omega
  have HZ4 := Lib.hid (And.intro hz4 hz2)
  clear hr hz h8 hfc hz4 hz2
  go_enter Tryd.func3, Tryd.ntmps3
  go_wp2_with fail
  refine HSP.out.mono ?_
  rintro e w1 ⟨rfl, g1⟩
  go_wp2_with fail
  refine (new_k (n0 := w.heap.size) (X := []) 20 (by decide) (by decide) w1 (by simp) g1.size).mono ?_
  rintro e w2 ⟨b, rfl, hD, g2⟩
  have HG2 := Lib.hid (grownBy_trans g1 g2)
  have HOP := Lib.hid (open_new w.heap.size [] 20 w2 b f c z hD (by simp) HG2.out.size (by decide) HZ.out.2.1 HZ.out.1 HZ.out.2.2)
  clear hD g1 g2
  go_wp2_with fail
  refine HOP.out.mono ?_
  rintro e w3 ⟨g, rfl, hB, g3⟩
  have HG3 := Lib.hid (grownBy_trans HG2.out g3)
  have HB := Lib.hid hB
  clear hB g3 HOP
  go_wp2_with fail
  refine (open_nil 0 8 _).mono ?_
  rintro e v0 ⟨rfl, k0⟩
  go_wp2_with fail
  refine (bput_nil _ _).mono ?_
  rintro e v1 ⟨rfl, rfl⟩
  go_wp2_with fail
  refine (bcompact_nil _ _).mono ?_
  rintro e v2 ⟨rfl, rfl⟩
  go_wp2_with fail
  refine (left_nil _).mono ?_
  rintro e v3 ⟨rfl, rfl⟩
  go_wp2_with fail
  refine (records_nil _).mono ?_
  rintro e v4 ⟨rfl, rfl⟩
  go_wp2_with fail
  have HG4 := Lib.hid (grownBy_trans HG3.out k0)
  obtain ⟨rv, hK⟩ := HB.out.grown k0
  have HFU := Lib.hid (fuse_k (n0 := w.heap.size) (X := ownB rv ++ g :: []) (w := v0) (b := b) (D := newD 20) (by
    intro x hx
    simp only [List.mem_append, List.mem_cons] at hx
    rcases hx with hx | rfl | hx
    · exact hK.mem.lt.2 x (ownB_mem.1 hx)
    · exact hK.mem.lt.1
    · cases hx) HG4.out.size 0 none 0 0 [] hK.disk ⟨none, 0, rfl, fun i h => absurd h (by simp)⟩ (by decide) (by rintro g o ⟨⟩))
  have HK := Lib.hid hK
  clear hK k0 HB
  go_wp2_with fail
  refine HFU.out.mono ?_
  rintro e w5 ⟨rfl, hD5, t5⟩
  have hK5 : KBook w.heap.size [] w5 g b (newB f z) (fuseD (newD 20) 0 []) := ⟨rv, HK.out.fused hD5 t5⟩
  have HG5 := Lib.hid (grownBy_below (t5.bel (below_grownBy HG4.out) HG4.out.size))
  have hok := newB_ok 20 f z HZ4.out.2 (by decide) HZ4.out.1
  have hx1 : partsN (⟨#[120]⟩ : ByteArray).size ≤ (newB f z).size - (newB f z).used := by show 1 ≤ z - 0; have := HZ4.out.1; omega
  have HP1 := Lib.hid (bput_any w.heap.size 20 [] w5 g b (newB f z) (fuseD (newD 20) 0 []) hK5 (by simp) HG5.out.size hok (by decide) rfl (by decide) (by decide) (by decide) ⟨#[120]⟩ (by decide) (HR.out.grown HG5.out) (fun h => by have := HSX.out.1; omega) (fun h => by have := HSX.out.2; omega))
  rw [put_cut (newB f z) (fuseD (newD 20) 0 []) ⟨#[120]⟩ rfl (by decide) hx1 rfl] at HP1
  clear hD5 t5 hK5 HFU HK hx1
  go_wp2_with fail
  refine HP1.out.mono ?_
  rintro e w6 ⟨rfl, ⟨rv6, hK6⟩, t6⟩
  have HG6 := Lib.hid (grownBy_below (t6.bel (below_grownBy HG5.out) HG5.out.size))
  have ht : takesI { newB f z with failed := true } ⟨#[120]⟩ = 21 := takes_failed _ _ rfl (by decide)
  have HP2 := Lib.hid (bput_no w6 g b { newB f z with failed := true } rv6 hK6.mem ⟨#[120]⟩ (by decide) (by rw [ht]; decide))
  have HP3 := Lib.hid (bcompact_no w6 g b { newB f z with failed := true } rv6 hK6.mem ⟨#[120]⟩ (by decide) (by rw [ht]; decide))
  rw [ht] at HP2 HP3
  clear ht hK6 t6 HP1 hok
  go_wp2_with fail
  refine HP2.out.mono ?_
  rintro e w7 ⟨rfl, rfl⟩
  go_wp2_with fail
  refine HP3.out.mono ?_
  rintro e w8 ⟨rfl, rfl⟩
  go_wp2_with fail
  go_ret
  exact ⟨rfl, below_grownBy HG6.out⟩
theorem areas_walk (f c : Int) (w : World) (hr : ShaReady w) (hf : -9223372036854775808 ≤ f ∧ f ≤ 9223372036854775807) (hc : -9223372036854775808 ≤ c ∧ c ≤ 9223372036854775807) :
    Calls Tryd.prog 3 #[.int .i64 f, .int .i64 c] w fun e w' => e = .returned (.bool true) ∧ Below w.heap.size w w' := by
  by_cases h : c < 8 ∨ f < 0 ∨ (20 : Int) - c < f
  · exact areas_bad f c w hr hf hc h
  · obtain ⟨f', rfl⟩ : ∃ f' : Nat, f = (f' : Int) := ⟨f.toNat, by omega⟩
    obtain ⟨c', rfl⟩ : ∃ c' : Nat, c = (c' : Int) := ⟨c.toNat, by omega⟩
    exact areas_good f' c' w hr (by omega) (by omega)
end Go.Proofs.YtfpbnfjlabhhoaaDoor
