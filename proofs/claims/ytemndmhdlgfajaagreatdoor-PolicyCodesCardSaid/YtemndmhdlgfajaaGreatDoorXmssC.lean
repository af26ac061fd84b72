/- The walks of xmss.Sign of an index that may not be, and of hasPlace. -/
import Derived.Test.YtemndmhdlgfajaaGreatDoorPolicyCodesB4
namespace Go.Proofs.YtemndmhdlgfajaaGreatDoor
open Go.RowKit
attribute [local irreducible] shaL

def sigZ : Value := sigV 0 (.slice none 0 0) (.slice none 0 0)
set_option maxHeartbeats 800000 in
set_option maxRecDepth 100000 in
theorem xsign_spent (b : Nat) (seed m : ByteArray) (h : Nat) (i : Int) (hi : ((2 ^ h : Nat) : Int) ≤ i) (w : World) (hk : KeyAt w b seed h) :
    Calls Tryz.prog 36 #[.pointer (some ⟨b, 0, none⟩), .int .i64 i, .string m] w fun e w' => e = .returned (.tuple #[sigZ, .int .i64 11]) ∧ w.grownBy w' none := by
  obtain ⟨N, hN⟩ : ∃ N, 2 ^ h = N := ⟨_, rfl⟩
  rw [hN] at hi
  have HK := Lib.hid hk
  have HN := Lib.hid hN
  clear hk hN
  go_enter Tryz.func36, Tryz.ntmps36
  go_wp2_with fail
  refine (count_any b seed h N HN.out _ (HK.out.grown (World.grownBy_alloc _ _ _))).mono ?_
  rintro e w1 ⟨rfl, rfl⟩
  have hzc : (w.alloc (.cells #[.int .i64 0, .slice none 0 0, .slice none 0 0] 37)).heap[w.heap.size]? = some (.cells #[.int .i64 0, .slice none 0 0, .slice none 0 0] 37 (0, 0)) := heap_alloc_at _ _ _ rfl
  have hg0 : w.grownBy (w.alloc (.cells #[.int .i64 0, .slice none 0 0, .slice none 0 0] 37)) none := World.grownBy_alloc _ _ _
  have HG0 := Lib.hid hg0
  have HZ := Lib.hid hzc
  clear hzc hg0
  generalize w.alloc (.cells #[.int .i64 0, .slice none 0 0, .slice none 0 0] 37) = wz at *
  have z0 := cell_of HZ.out 0
  have z1 := cell_of HZ.out 1
  have z2 := cell_of HZ.out 2
  have f0 := free_of HZ.out 0
  have f1 := free_of HZ.out 1
  have f2 := free_of HZ.out 2
  simp at z0 z1 z2
  go_wp2_with fail
  have hW := heap_setCell (heap_setCell (heap_setCell HZ.out 0 (.int .i64 0)) 1 (.slice none 0 0)) 2 (.slice none 0 0)
  have hWg : w.grownBy (((wz.setCell ⟨w.heap.size, 0, none⟩ (.int .i64 0)).setCell ⟨w.heap.size, 1, none⟩ (.slice none 0 0)).setCell ⟨w.heap.size, 2, none⟩ (.slice none 0 0)) none := grownBy_setNew (grownBy_setNew (grownBy_setNew HG0.out (Nat.le_refl _) 0 _) (Nat.le_refl _) 1 _) (Nat.le_refl _) 2 _
  generalize ((wz.setCell ⟨w.heap.size, 0, none⟩ (.int .i64 0)).setCell ⟨w.heap.size, 1, none⟩ (.slice none 0 0)).setCell ⟨w.heap.size, 2, none⟩ (.slice none 0 0) = wf at hW hWg ⊢
  have y0 := cell_of hW 0
  have y1 := cell_of hW 1
  have y2 := cell_of hW 2
  simp at y0 y1 y2
  try simp only [Exit.inBlock, Exit.then]
  refine bodyPost_ret (by simp [results, Tryz.results36, go_sem, y0, y1, y2]; try rfl) rfl ?_
  exact ⟨rfl, hWg⟩

set_option maxHeartbeats 800000 in
set_option maxRecDepth 100000 in
theorem xsign_neg (b : Nat) (seed m : ByteArray) (h : Nat) (i : Int) (hh : h ≤ 6) (hi : i < 0) (w : World) (hk : KeyAt w b seed h) :
    Calls Tryz.prog 36 #[.pointer (some ⟨b, 0, none⟩), .int .i64 i, .string m] w fun e w' => e = .returned (.tuple #[sigZ, .int .i64 10]) ∧ w.grownBy w' none := by
  obtain ⟨N, hN⟩ : ∃ N, 2 ^ h = N := ⟨_, rfl⟩
  have HK := Lib.hid hk
  have HN := Lib.hid hN
  obtain ⟨a, cap, h1, h2⟩ := hk
  rw [hN] at h1 h2
  have hpath : Hid (∀ w0, w.grownBy w0 none → Calls Tryz.prog 88 #[.slice a N cap, .int .i64 i] w0 fun e w' => e = .returned (.tuple #[.slice none 0 0, .int .i64 10]) ∧ w0 = w') := fun w0 h0 =>
    path_out _ (leavesS seed h) i (by rw [leavesS_length]; exact treeB_pow h hh) (Or.inl hi) w0 (h2.grown h0)
  have c1 := cell_of h1 1
  simp at c1
  have hlt : i < (N : Int) := by omega
  clear h1 h2 hN
  go_enter Tryz.func36, Tryz.ntmps36
  go_wp2_with fail
  refine (count_any b seed h N HN.out _ (HK.out.grown (World.grownBy_alloc _ _ _))).mono ?_
  rintro e w1 ⟨rfl, rfl⟩
  have hzc : (w.alloc (.cells #[.int .i64 0, .slice none 0 0, .slice none 0 0] 37)).heap[w.heap.size]? = some (.cells #[.int .i64 0, .slice none 0 0, .slice none 0 0] 37 (0, 0)) := heap_alloc_at _ _ _ rfl
  have hg0 : w.grownBy (w.alloc (.cells #[.int .i64 0, .slice none 0 0, .slice none 0 0] 37)) none := World.grownBy_alloc _ _ _
  have HG0 := Lib.hid hg0
  have HZ := Lib.hid hzc
  have c1z := hg0.cell c1 (by simp)
  clear hzc hg0
  generalize w.alloc (.cells #[.int .i64 0, .slice none 0 0, .slice none 0 0] 37) = wz at *
  have z0 := cell_of HZ.out 0
  have z1 := cell_of HZ.out 1
  have z2 := cell_of HZ.out 2
  have f0 := free_of HZ.out 0
  have f1 := free_of HZ.out 1
  have f2 := free_of HZ.out 2
  simp at z0 z1 z2
  go_wp2_with fail
  refine (hpath.out _ HG0.out).mono ?_
  rintro e w2 ⟨rfl, rfl⟩
  go_wp2_with fail
  have hW := heap_setCell (heap_setCell (heap_setCell HZ.out 0 (.int .i64 0)) 1 (.slice none 0 0)) 2 (.slice none 0 0)
  have hWg : w.grownBy (((wz.setCell ⟨w.heap.size, 0, none⟩ (.int .i64 0)).setCell ⟨w.heap.size, 1, none⟩ (.slice none 0 0)).setCell ⟨w.heap.size, 2, none⟩ (.slice none 0 0)) none := grownBy_setNew (grownBy_setNew (grownBy_setNew HG0.out (Nat.le_refl _) 0 _) (Nat.le_refl _) 1 _) (Nat.le_refl _) 2 _
  generalize ((wz.setCell ⟨w.heap.size, 0, none⟩ (.int .i64 0)).setCell ⟨w.heap.size, 1, none⟩ (.slice none 0 0)).setCell ⟨w.heap.size, 2, none⟩ (.slice none 0 0) = wf at hW hWg ⊢
  have y0 := cell_of hW 0
  have y1 := cell_of hW 1
  have y2 := cell_of hW 2
  simp at y0 y1 y2
  try simp only [Exit.inBlock, Exit.then]
  refine bodyPost_ret (by simp [results, Tryz.results36, go_sem, y0, y1, y2]; try rfl) rfl ?_
  exact ⟨rfl, hWg⟩

set_option maxHeartbeats 800000 in
set_option maxRecDepth 100000 in
theorem hasPlace_any (o r : ByteArray) (h i : Nat) (hh : h ≤ 6) (hi : i < 2 ^ h) (ca : Option Addr) (cn cc : Nat) (pa : Option Addr) (pc : Nat) (w : World) :
    Calls Tryz.prog 45 #[pubV o r h, sigV i (.slice ca cn cc) (.slice pa h pc)] w fun e w' => e = .returned (.bool true) ∧ w.grownBy w' none := by
  unfold pubV sigV
  have h1 : (0 : Int) ≤ (h : Int) := by omega
  have h2 : (h : Int) < 64 := by omega
  have h0 : (0 : Int) ≤ (i : Int) := by omega
  have hq : (i : Int) / 2 ^ h = 0 := by
    have : (i : Int) < 2 ^ h := by exact_mod_cast hi
    exact Int.ediv_eq_zero_of_lt h0 this
  go_enter Tryz.func45, Tryz.ntmps45
  go_wp2_with fail
  go_ret
  exact ⟨rfl, grownBy_alloc' (World.grownBy_alloc _ _ _) _⟩

theorem climb_keep {w a c : World} {b : Nat} {x1 y0 y2 : Value} (h : w.grownBy a none) (g : a.grownBy c none) (k1 : w.cell? ⟨b, 1, none⟩ = some x1) (l0 : w.cell? ⟨b + 1, 0, none⟩ = some y0) (l2 : w.cell? ⟨b + 1, 2, none⟩ = some y2) :
    w.grownBy c none ∧ c.cell? ⟨b, 1, none⟩ = some x1 ∧ c.cell? ⟨b + 1, 0, none⟩ = some y0 ∧ c.cell? ⟨b + 1, 2, none⟩ = some y2 :=
  have hg := grownBy_trans h g
  ⟨hg, hg.cell k1 (by simp), hg.cell l0 (by simp), hg.cell l2 (by simp)⟩
theorem veri_keep {w a c : World} {b : Nat} {x0 x1 x2 y0 y1 : Value} (h : w.grownBy a none) (g : a.grownBy c none) (k0 : w.cell? ⟨b, 0, none⟩ = some x0) (k1 : w.cell? ⟨b, 1, none⟩ = some x1) (k2 : w.cell? ⟨b, 2, none⟩ = some x2) (l0 : w.cell? ⟨b + 1, 0, none⟩ = some y0) (l1 : w.cell? ⟨b + 1, 1, none⟩ = some y1) :
    w.grownBy c none ∧ c.cell? ⟨b, 0, none⟩ = some x0 ∧ c.cell? ⟨b, 1, none⟩ = some x1 ∧ c.cell? ⟨b, 2, none⟩ = some x2 ∧ c.cell? ⟨b + 1, 0, none⟩ = some y0 ∧ c.cell? ⟨b + 1, 1, none⟩ = some y1 :=
  have hg := grownBy_trans h g
  ⟨hg, hg.cell k0 (by simp), hg.cell k1 (by simp), hg.cell k2 (by simp), hg.cell l0 (by simp), hg.cell l1 (by simp)⟩
set_option maxHeartbeats 1600000 in
set_option maxRecDepth 100000 in
theorem verify_any (o r m : ByteArray) (h i : Nat) (C P : List ByteArray) (ca : Option Addr) (cc : Nat) (pa : Option Addr) (pc : Nat) (res : Bool) (hh : h ≤ 6) (hi : i < 2 ^ h) (ho : o.size = 16) (hm : m.size ≤ 1000000000000)
    (hC : C.length = 35) (hC16 : ∀ s ∈ C, s.size = 16) (hP : P.length = h) (hP16 : ∀ s ∈ P, s.size ≤ 1000000000000) (hres : ((climbS (publicOfS o i (recS o i (digs (digestS o i m).data.toList) C 35)) i P).toList == r.toList) = res)
    (w : World) (hc : StrsAt w (.slice ca 35 cc) C) (hp : StrsAt w (.slice pa h pc) P) (hr : ShaReady w) :
    Calls Tryz.prog 12 #[pubV o r h, .string m, sigV i (.slice ca 35 cc) (.slice pa h pc)] w fun e w' => e = .returned (.bool res) ∧ w.grownBy w' none := by
  have HR := Lib.hid hr
  have hi6 : i < 64 := Nat.lt_of_lt_of_le hi (pow_le64 h hh)
  have hpl : Hid (∀ w0, Calls Tryz.prog 45 #[.agg #[.string o, .string r, .int .i64 h], .agg #[.int .i64 i, .slice ca 35 cc, .slice pa h pc]] w0 fun e w' => e = .returned (.bool true) ∧ w0.grownBy w' none) := fun w0 => hasPlace_any o r h i hh hi ca 35 cc pa pc w0
  have hdg : Hid (∀ w0, ShaReady w0 → Calls Tryz.prog 47 #[.agg #[.string o, .string r, .int .i64 h], .int .i64 i, .string m] w0 fun e w' => e = .returned (.string (digestS o i m)) ∧ w0.grownBy w' none) := fun w0 h0 => digest_any o r m h i (by omega) (by rw [ho]; decide) hm w0 h0
  have hrc : Hid (∀ w0, w.grownBy w0 none → ShaReady w0 → Calls Tryz.prog 46 #[.string o, .int .i64 i, .string (digestS o i m), .slice ca 35 cc] w0 fun e w' => e = .returned (.tuple #[.string (publicOfS o i (recS o i (digs (digestS o i m).data.toList) C 35)), .int .i64 0]) ∧ w0.grownBy w' none) := fun w0 h0 hr0 =>
    wrecover_any o (digestS o i m) i _ C (by rw [ho]; decide) (digestS_size _ _ _) (by omega) hC hC16 w0 (hc.grown h0) hr0
  have hcl : Hid (∀ w0, w.grownBy w0 none → ShaReady w0 → Calls Tryz.prog 48 #[.string (publicOfS o i (recS o i (digs (digestS o i m).data.toList) C 35)), .int .i64 i, .slice pa h pc] w0 fun e w' => e = .returned (.string (climbS (publicOfS o i (recS o i (digs (digestS o i m).data.toList) C 35)) i P)) ∧ w0.grownBy w' none) := fun w0 h0 hr0 =>
    climb_any _ i _ P (by omega) (by rw [hP]; omega) (by rw [show (publicOfS o i (recS o i (digs (digestS o i m).data.toList) C 35)).size = 16 from tagS_size _ _]; decide) hP16 w0 (hp.grown h0) hr0
  unfold pubV sigV
  generalize climbS (publicOfS o i (recS o i (digs (digestS o i m).data.toList) C 35)) i P = CL at hcl hres
  generalize publicOfS o i (recS o i (digs (digestS o i m).data.toList) C 35) = LF at hrc hcl
  generalize digestS o i m = D at hdg hrc
  clear hr hC hC16 hP hP16 hc hp
  go_enter Tryz.func12, Tryz.ntmps12
  go_wp2_with fail
  have hca : ((w.alloc (.cells #[.string o, .string r, .int .i64 h] 31)).alloc (.cells #[.int .i64 i, .slice ca 35 cc, .slice pa h pc] 37)).heap[w.heap.size]? = some (.cells #[.string o, .string r, .int .i64 h] 31 (0, 0)) := by
    rw [Below.heap_alloc _ _ _ (by show w.heap.size < (w.heap.push _).size; rw [Array.size_push]; exact Nat.lt_succ_self _)]
    exact heap_alloc_at _ _ _ rfl
  have hcb : ((w.alloc (.cells #[.string o, .string r, .int .i64 h] 31)).alloc (.cells #[.int .i64 i, .slice ca 35 cc, .slice pa h pc] 37)).heap[w.heap.size + 1]? = some (.cells #[.int .i64 i, .slice ca 35 cc, .slice pa h pc] 37 (0, 0)) := heap_alloc_at _ _ _ (by show (w.heap.push _).size = _; rw [Array.size_push])
  have hg0 : w.grownBy ((w.alloc (.cells #[.string o, .string r, .int .i64 h] 31)).alloc (.cells #[.int .i64 i, .slice ca 35 cc, .slice pa h pc] 37)) none := grownBy_alloc' (World.grownBy_alloc _ _ _) _
  have HCA := Lib.hid hca
  have HCB := Lib.hid hcb
  have HG0 := Lib.hid hg0
  clear hca hcb hg0
  generalize (w.alloc (.cells #[.string o, .string r, .int .i64 h] 31)).alloc (.cells #[.int .i64 i, .slice ca 35 cc, .slice pa h pc] 37) = wz at *
  refine (hpl.out wz).mono ?_
  rintro e w2 ⟨rfl, g2⟩
  have hca2 := (g2.block _ (Array.getElem?_eq_some_iff.1 HCA.out).1 (by simp)).trans HCA.out
  have hcb2 := (g2.block _ (Array.getElem?_eq_some_iff.1 HCB.out).1 (by simp)).trans HCB.out
  have G2 := Lib.hid (grownBy_trans HG0.out g2)
  have HR2 := Lib.hid (HR.out.grown G2.out)
  have p0 := cell_of hca2 0
  have p1 := cell_of hca2 1
  have p2 := cell_of hca2 2
  have s0 := cell_of hcb2 0
  have s1 := cell_of hcb2 1
  have s2 := cell_of hcb2 2
  simp at p0 p1 p2 s0 s1 s2
  clear g2 hpl hca2 hcb2 HCA HCB HG0
  generalize w.heap.size = B at *
  go_wp2_with fail
  go_region_held3 (fun w' => w2.grownBy w' none ∧ w'.cell? ⟨B, 0, none⟩ = some (.string o) ∧ w'.cell? ⟨B, 1, none⟩ = some (.string r) ∧ w'.cell? ⟨B, 2, none⟩ = some (.int .i64 h) ∧ w'.cell? ⟨B + 1, 0, none⟩ = some (.int .i64 i) ∧ w'.cell? ⟨B + 1, 1, none⟩ = some (.slice ca 35 cc)) (first | exact ck | exact ⟨grownBy_drew (World.grownBy.refl _ _), p0, p1, p2, s0, s1⟩)
    (first
      | (go_at_call 47; (with_reducible refine (hdg.out _ (HR2.out.grown (grownBy_drew (World.grownBy.refl _ _)))).mono ?_); rintro e w6 ⟨rfl, g6⟩; have ck := veri_keep (grownBy_drew (World.grownBy.refl w2 none)) g6 p0 p1 p2 s0 s1)
      | (go_at_call 46; (with_reducible refine (hrc.out _ (grownBy_trans G2.out ck.1) (HR2.out.grown ck.1)).mono ?_); rintro e w7 ⟨rfl, g7⟩; have ck := veri_keep ck.1 g7 p0 p1 p2 s0 s1))
  obtain ⟨gw, q0, q1, q2, t0, t1⟩ := ck
  have t2 := gw.cell s2 (by simp)
  have G7 := Lib.hid (grownBy_trans G2.out gw)
  have HR7 := Lib.hid (HR.out.grown G7.out)
  clear p0 p1 p2 s0 s1 s2 q0 q2 t1 gw hdg hrc HR2 G2
  go_wp2_with fail
  go_region_held3 (fun w' => w7.grownBy w' none ∧ w'.cell? ⟨B, 1, none⟩ = some (.string r) ∧ w'.cell? ⟨B + 1, 0, none⟩ = some (.int .i64 i) ∧ w'.cell? ⟨B + 1, 2, none⟩ = some (.slice pa h pc)) (first | exact ck | exact ⟨grownBy_drew (World.grownBy.refl _ _), q1, t0, t2⟩)
    (first
      | (go_at_call 48; (with_reducible refine (hcl.out _ (grownBy_trans G7.out (grownBy_drew (World.grownBy.refl _ _))) (HR7.out.grown (grownBy_drew (World.grownBy.refl _ _)))).mono ?_); rintro e w8 ⟨rfl, g8⟩; have ck := climb_keep (grownBy_drew (World.grownBy.refl w7 none)) g8 q1 t0 t2))
  have G8 := Lib.hid (grownBy_trans G7.out ck.1)
  clear ck
  go_wp2_with fail
  go_ret
  exact ⟨rfl, G8.out⟩
end Go.Proofs.YtemndmhdlgfajaaGreatDoor
