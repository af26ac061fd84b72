/- The walk of layer 14's laws' speaks. -/
import Derived.Test.YtheabbknflmnfaaDoorPrfVX
import Derived.Test.YtheabbknflmnfaaDoorPrfSO
namespace Go.Proofs.YtheabbknflmnfaaDoor
open Go.RowKit Go.Maps
attribute [local irreducible] shaL

theorem startM_zero (M : List PairS) (s : ByteArray) : startM M s 0 = M := List.filter_eq_self.2 (fun _ _ => rfl)
theorem rest_single (x : PairS) (key : ByteArray) : restT [x] key 0 = [x] ∧ wayT [x] key 0 = [] := by
  have h := wayT_end (M := [x]) (key := key) (d := 0) (by rw [startM_zero]; exact Nat.lt_succ_self 1)
  rw [startM_zero] at h
  exact ⟨h.2, h.1⟩
theorem node_single (x : PairS) (key : ByteArray) : nodeAt [x] key 0 = nodeN 128 [x] 0 := by
  unfold nodeAt
  rw [startM_zero]
theorem OwnP.form {w : World} {bv : Value} {M : List PairS} {key : ByteArray} {d : Nat} (h : OwnP w bv M key d) : ∃ a c, bv = .slice a (wayT M key d).length c := by
  obtain ⟨B, hB⟩ := h.row
  exact slice_own' hB
/-- a proof in its cells -/
def ProofIn (w : World) (B : Nat) (bv : Value) (t : Bool) (k v : ByteArray) : Prop := w.heap[B]? = some (.cells #[bv, .bool t, .string k, .string v] 51 (0, 0))
theorem ProofIn.new (w : World) (bv : Value) (t : Bool) (k v : ByteArray) : ProofIn (w.alloc (.cells #[bv, .bool t, .string k, .string v] 51)) w.heap.size bv t k v := heap_alloc_at w _ _ rfl
theorem ProofIn.grown {w w' : World} {B : Nat} {bv : Value} {t : Bool} {k v : ByteArray} (h : ProofIn w B bv t k v) (g : w.grownBy w' none) : ProofIn w' B bv t k v := g.heap h (by simp)
theorem ProofIn.cells {w : World} {B : Nat} {bv : Value} {t : Bool} {k v : ByteArray} (h : ProofIn w B bv t k v) : w.cell? ⟨B, 0, none⟩ = some bv ∧ w.cell? ⟨B, 1, none⟩ = some (.bool t) ∧ w.cell? ⟨B, 2, none⟩ = some (.string k) ∧ w.cell? ⟨B, 3, none⟩ = some (.string v) := by
  have h' : w.heap[B]? = _ := h
  exact ⟨by rw [cell_of h']; rfl, by rw [cell_of h']; rfl, by rw [cell_of h']; rfl, by rw [cell_of h']; rfl⟩
set_option maxRecDepth 100000 in
set_option maxHeartbeats 4000000 in
theorem prf_speaks (w : World) (hr : ShaReady w) : Calls Tryd.prog 22 #[] w fun e w' => e = .returned (.bool true) ∧ w.grownBy w' none := by
  have HR := Lib.hid hr
  have HNEW := Lib.hid (tnew_any w.heap.size [] w (by simp) (Nat.le_refl _))
  have HK1 : Hid (∀ w' : World, Calls Tryd.prog 24 #[.int .u8 1, .int .u8 2] w' fun e w'' => e = .returned (.string (keyS14 1 2)) ∧ w'.grownBy w'' none) := Lib.hid (fun w' => key14_any 1 2 w')
  have HK9 : Hid (∀ w' : World, Calls Tryd.prog 24 #[.int .u8 9, .int .u8 9] w' fun e w'' => e = .returned (.string (keyS14 9 9)) ∧ w'.grownBy w'' none) := Lib.hid (fun w' => key14_any 9 9 w')
  have hk := keyS14_size 1 2
  have hk9 := keyS14_size 9 9
  have hne : keyS14 1 2 ≠ keyS14 9 9 := by decide
  clear hr
  go_enter Tryd.func22, Tryd.ntmps22
  go_wp2_with fail
  refine HNEW.out.mono ?_
  rintro e w1 ⟨rfl, hT1, g1⟩
  obtain ⟨TB, hTB⟩ : ∃ TB, w.heap.size = TB := ⟨_, rfl⟩
  rw [hTB] at hT1 ⊢
  have HTB := Lib.hid hTB
  have HT1 := Lib.hid hT1
  have HG1 := Lib.hid g1
  generalize keyS14 1 2 = K at HK1 hk hne
  generalize keyS14 9 9 = K9 at HK9 hk9 hne
  have HK := Lib.hid (And.intro hk (And.intro hk9 hne))
  clear hT1 g1 hTB HNEW hk hk9 hne
  go_wp2_with fail
  refine (HK1.out _).mono ?_
  rintro e w2 ⟨rfl, g2⟩
  have HG2 := Lib.hid (grownBy_trans HG1.out g2)
  have HPUT := Lib.hid (tput_any TB [] w2 TB [] K ⟨#[118]⟩ (HT1.out.grown g2) (by simp) (by have := HG2.out.size; have := HTB.out; omega) HK.out.1 (by decide) (by decide))
  clear g2 HT1
  go_wp2_with fail
  refine HPUT.out.mono ?_
  rintro e w3 ⟨rfl, hT3, t3⟩
  have hb2 := below_grownBy HG2.out
  rw [HTB.out] at hb2
  have HG3 : Hid (w.grownBy w3 none) := by
    have h6 := t3.bel hb2 (by have := hb2.size; rw [HTB.out] at this; exact this)
    rw [← HTB.out] at h6
    exact Lib.hid (grownBy_below h6)
  have hM1 : setM [] (K, (⟨#[118]⟩ : ByteArray)) = [(K, ⟨#[118]⟩)] := rfl
  have hP : Plain [(K, (⟨#[118]⟩ : ByteArray))] := plain_of (by intro x hx; rw [List.mem_singleton.1 hx]; exact ⟨HK.out.1, by show 1 ≤ 20; decide⟩) (by show 1 ≤ 12; decide)
  rw [hM1] at hT3
  have HT3 := Lib.hid hT3
  have HP := Lib.hid hP
  have hvs : ∀ x ∈ [(K, (⟨#[118]⟩ : ByteArray))], x.2.size ≤ 1000 := by intro x hx; rw [List.mem_singleton.1 hx]; show 1 ≤ 1000; decide
  have e1 : valM [(K, (⟨#[118]⟩ : ByteArray))] K = ⟨#[118]⟩ := by unfold valM; simp
  have e2 : hasM [(K, (⟨#[118]⟩ : ByteArray))] K = true := by unfold hasM; simp
  have e3 : hasM [(K, (⟨#[118]⟩ : ByteArray))] K9 = false := by unfold hasM; simp; exact HK.out.2.2
  have HPR : Hid (∀ (key : ByteArray) (w' : World), w.grownBy w' none → w3.grownBy w' none → key.size = 16 → Calls Tryd.prog 25 #[.pointer (some ⟨TB, 0, none⟩), .string key, .int .i64 0] w' fun e w'' => ∃ bv, e = .returned (.tuple #[.agg #[bv, .bool true, .string K, .string ⟨#[118]⟩], .int .i64 0]) ∧ OwnP w'' bv [(K, ⟨#[118]⟩)] key 0 ∧ w'.grownBy w'' none) := by
    intro key w' q q3 h16
    have h := prove_own TB [] w' TB [(K, ⟨#[118]⟩)] key 0 (HT3.out.grown q3) HP.out hvs h16 (Nat.zero_le _) (HR.out.grown q)
    rw [(rest_single _ key).1] at h
    exact h
  obtain ⟨R, hR⟩ : ∃ R, nodeN 128 [(K, (⟨#[118]⟩ : ByteArray))] 0 = R := ⟨_, rfl⟩
  have HHAS : Hid (∀ (bv : Value) (w' : World), OwnP w' bv [(K, ⟨#[118]⟩)] K 0 → Calls Tryd.prog 31 #[.agg #[bv, .bool true, .string K, .string ⟨#[118]⟩], .string R, .string K, .string ⟨#[118]⟩, .int .i64 0] w' fun e w'' => e = .returned (.bool true) ∧ w'.grownBy w'' none) := by
    intro bv w' h
    have h1 := h.has ⟨#[118]⟩
    rw [(rest_single _ K).1, node_single, hR, e1, e2] at h1
    exact h1
  have HLAX : Hid (∀ (bv : Value) (w' : World), OwnP w' bv [(K, ⟨#[118]⟩)] K 0 → Calls Tryd.prog 32 #[.agg #[bv, .bool true, .string K, .string ⟨#[118]⟩], .string R, .string K, .int .i64 0] w' fun e w'' => e = .returned (.bool false) ∧ w'.grownBy w'' none) := by
    intro bv w' h
    have h1 := h.lacks
    rw [(rest_single _ K).1, node_single, hR, e2] at h1
    exact h1
  have HLAC : Hid (∀ (bv : Value) (w' : World), OwnP w' bv [(K, ⟨#[118]⟩)] K9 0 → Calls Tryd.prog 32 #[.agg #[bv, .bool true, .string K, .string ⟨#[118]⟩], .string R, .string K9, .int .i64 0] w' fun e w'' => e = .returned (.bool true) ∧ w'.grownBy w'' none) := by
    intro bv w' h
    have h1 := h.lacks
    rw [(rest_single _ K9).1, node_single, hR, e3] at h1
    exact h1
  have HRO := Lib.hid (fun (w' : World) (q : w.grownBy w' none) (q3 : w3.grownBy w' none) => troot_any TB [] w' TB _ (HT3.out.grown q3) HP.out (HR.out.grown q))
  rw [hR] at HRO
  clear hT3 t3 hb2 HPUT hM1 hP hvs e1 e2 e3 hR
  go_wp2_with fail
  refine (HK1.out _).mono ?_
  rintro e w4 ⟨rfl, g4⟩
  have HG4 := Lib.hid (And.intro (grownBy_trans HG3.out g4) g4)
  clear g4
  go_wp2_with fail
  refine (HPR.out K w4 HG4.out.1 HG4.out.2 HK.out.1).mono ?_
  rintro e w5 ⟨b5, rfl, ho5, g5⟩
  obtain ⟨a5, q5, rfl⟩ := ho5.form
  obtain ⟨n5, hn5⟩ : ∃ n, (wayT [(K, (⟨#[118]⟩ : ByteArray))] K 0).length = n := ⟨_, rfl⟩
  rw [hn5] at ho5 ⊢
  have hp6 := ProofIn.new w5 (.slice a5 n5 q5) true K ⟨#[118]⟩
  have hg6 : w5.grownBy (w5.alloc (.cells #[.slice a5 n5 q5, .bool true, .string K, .string ⟨#[118]⟩] 51)) none := World.grownBy_alloc _ _ _
  go_wp2_with fail
  obtain ⟨W6, hW6⟩ : ∃ W6, w5.alloc (.cells #[.slice a5 n5 q5, .bool true, .string K, .string ⟨#[118]⟩] 51) = W6 := ⟨_, rfl⟩
  rw [hW6] at hp6 hg6 ⊢
  obtain ⟨P, hP⟩ : ∃ P, w5.heap.size = P := ⟨_, rfl⟩
  rw [hP] at hp6 ⊢
  refine (HK9.out _).mono ?_
  rintro e w7 ⟨rfl, g7⟩
  have g67 := grownBy_trans hg6 g7
  have hg7 := grownBy_trans g5 g67
  have H7 : Hid (ProofIn w7 P (.slice a5 n5 q5) true K ⟨#[118]⟩ ∧ OwnP w7 (.slice a5 n5 q5) [(K, ⟨#[118]⟩)] K 0 ∧ w.grownBy w7 none ∧ w3.grownBy w7 none) := ⟨hp6.grown g7, ho5.grown g67, grownBy_trans HG4.out.1 hg7, grownBy_trans HG4.out.2 hg7⟩
  clear hp6 hg6 hP hW6 ho5 g5 g7 g67 hg7 hn5
  go_wp2_with fail
  refine (HPR.out K9 w7 H7.out.2.2.1 H7.out.2.2.2 HK.out.2.1).mono ?_
  rintro e w8 ⟨b8, rfl, ho8, g8⟩
  obtain ⟨a8, q8, rfl⟩ := ho8.form
  obtain ⟨n8, hn8⟩ : ∃ n, (wayT [(K, (⟨#[118]⟩ : ByteArray))] K9 0).length = n := ⟨_, rfl⟩
  rw [hn8] at ho8 ⊢
  have hp9 := ProofIn.new w8 (.slice a8 n8 q8) true K ⟨#[118]⟩
  have hg9 : w8.grownBy (w8.alloc (.cells #[.slice a8 n8 q8, .bool true, .string K, .string ⟨#[118]⟩] 51)) none := World.grownBy_alloc _ _ _
  go_wp2_with fail
  obtain ⟨W, hW⟩ : ∃ W, w8.alloc (.cells #[.slice a8 n8 q8, .bool true, .string K, .string ⟨#[118]⟩] 51) = W := ⟨_, rfl⟩
  rw [hW] at hp9 hg9 ⊢
  obtain ⟨Pq, hPq⟩ : ∃ P, w8.heap.size = P := ⟨_, rfl⟩
  rw [hPq] at hp9 ⊢
  have g89 := grownBy_trans g8 hg9
  have h1 := (H7.out.1.grown g89)
  have c1 := h1.cells
  have c2 := hp9.cells
  have HW : Hid (OwnP W (.slice a5 n5 q5) [(K, ⟨#[118]⟩)] K 0 ∧ OwnP W (.slice a8 n8 q8) [(K, ⟨#[118]⟩)] K9 0 ∧ w.grownBy W none ∧ w3.grownBy W none) := ⟨H7.out.2.1.grown g89, ho8.grown hg9, grownBy_trans H7.out.2.2.1 g89, grownBy_trans H7.out.2.2.2 g89⟩
  clear hp9 hg9 hPq hW ho8 g8 g89 hn8 h1 H7 HPR
  have HS : Hid (∀ w', W.grownBy w' none → W.grownBy w' none ∧ (w'.cell? ⟨P, 0, none⟩ = some (.slice a5 n5 q5) ∧ w'.cell? ⟨P, 1, none⟩ = some (.bool true) ∧ w'.cell? ⟨P, 2, none⟩ = some (.string K) ∧ w'.cell? ⟨P, 3, none⟩ = some (.string ⟨#[118]⟩)) ∧ (w'.cell? ⟨Pq, 0, none⟩ = some (.slice a8 n8 q8) ∧ w'.cell? ⟨Pq, 1, none⟩ = some (.bool true) ∧ w'.cell? ⟨Pq, 2, none⟩ = some (.string K) ∧ w'.cell? ⟨Pq, 3, none⟩ = some (.string ⟨#[118]⟩))) := fun w' g => ⟨g, ⟨g.cell c1.1 (by simp), g.cell c1.2.1 (by simp), g.cell c1.2.2.1 (by simp), g.cell c1.2.2.2 (by simp)⟩, ⟨g.cell c2.1 (by simp), g.cell c2.2.1 (by simp), g.cell c2.2.2.1 (by simp), g.cell c2.2.2.2 (by simp)⟩⟩
  have gk := grownBy_drew (World.grownBy.refl W none)
  clear c1 c2
  go_wp2_with fail
  go_region_held3 (fun w' => W.grownBy w' none ∧ (w'.cell? ⟨P, 0, none⟩ = some (.slice a5 n5 q5) ∧ w'.cell? ⟨P, 1, none⟩ = some (.bool true) ∧ w'.cell? ⟨P, 2, none⟩ = some (.string K) ∧ w'.cell? ⟨P, 3, none⟩ = some (.string ⟨#[118]⟩)) ∧ (w'.cell? ⟨Pq, 0, none⟩ = some (.slice a8 n8 q8) ∧ w'.cell? ⟨Pq, 1, none⟩ = some (.bool true) ∧ w'.cell? ⟨Pq, 2, none⟩ = some (.string K) ∧ w'.cell? ⟨Pq, 3, none⟩ = some (.string ⟨#[118]⟩))) (exact HS.out _ gk)
    (first
      | (go_at_call 21; (with_reducible refine (HRO.out _ (grownBy_trans HW.out.2.2.1 gk) (grownBy_trans HW.out.2.2.2 gk)).mono ?_); rintro e w9 ⟨rfl, g9⟩; have gk := grownBy_trans gk g9; clear g9)
      | (go_at_call 24; (first | (with_reducible refine (HK1.out _).mono ?_) | (with_reducible refine (HK9.out _).mono ?_)); rintro e w9 ⟨rfl, g9⟩; have gk := grownBy_trans gk g9; clear g9)
      | (go_at_call 31; (with_reducible refine (HHAS.out _ _ (HW.out.1.grown gk)).mono ?_); rintro e w9 ⟨rfl, g9⟩; have gk := grownBy_trans gk g9; clear g9)
      | (go_at_call 32; (first | (with_reducible refine (HLAC.out _ _ (HW.out.2.1.grown gk)).mono ?_) | (with_reducible refine (HLAX.out _ _ (HW.out.1.grown gk)).mono ?_)); rintro e w9 ⟨rfl, g9⟩; have gk := grownBy_trans gk g9; clear g9))
  have GK := Lib.hid (grownBy_trans HW.out.2.2.1 gk)
  clear gk
  go_wp2_with fail
  go_ret
  exact ⟨rfl, GK.out⟩
end Go.Proofs.YtheabbknflmnfaaDoor
