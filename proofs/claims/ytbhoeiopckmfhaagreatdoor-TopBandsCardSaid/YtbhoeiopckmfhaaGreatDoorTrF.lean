/- The walk of trans's Make. -/
import Derived.Test.YtbhoeiopckmfhaaGreatDoorTopBandsB17
import Derived.Test.YtbhoeiopckmfhaaGreatDoorTopBandsB6
import Derived.Test.YtbhoeiopckmfhaaGreatDoorTopBandsB13
import Derived.Deep.RegionHeld3
import Derived.Deep.AppendLies
namespace Go.Proofs.YtbhoeiopckmfhaaGreatDoor
open Go.RowKit Go.Maps
attribute [local irreducible] shaL

theorem infoStep : (Tryz.prog.info? 148).map (fun i => (i.zero, i.size, i.bytes)) = some (some (.agg #[.string ⟨#[]⟩, .string ⟨#[]⟩, .slice none 0 0, .bool false, .string ⟨#[]⟩, .string ⟨#[]⟩]), 6, 96) := by kernel_rfl
theorem cells5 {w : World} {b : Nat} {a0 a1 a2 a3 a4 : Value} {t : TypeId} (h : w.heap[b]? = some (.cells #[a0, a1, a2, a3, a4] t (0, 0))) : w.cell? ⟨b, 0, none⟩ = some a0 ∧ w.cell? ⟨b, 1, none⟩ = some a1 ∧ w.cell? ⟨b, 2, none⟩ = some a2 ∧ w.cell? ⟨b, 3, none⟩ = some a3 ∧ w.cell? ⟨b, 4, none⟩ = some a4 :=
  ⟨by rw [cell_of h]; rfl, by rw [cell_of h]; rfl, by rw [cell_of h]; rfl, by rw [cell_of h]; rfl, by rw [cell_of h]; rfl⟩
set_option maxRecDepth 100000 in
set_option maxHeartbeats 4000000 in
theorem make_any (n0 : Nat) (X : List Nat) (w : World) (tb : Nat) (M : List PairS) (b d : Nat) (L : List PairS) (la : Option Addr) (n c : Nat) (hT : TreeK n0 X w tb M) (hP : Plain M) (hv : ∀ x ∈ M, x.2.size ≤ 1000) (hL : PairsAt w (.slice la n c) L)
    (hk : ∀ x ∈ L, x.1.size = 16 ∧ x.2.size ≤ 1000 ∧ bandN x.1 d = b) (hn : n ≤ 256) (hM : M.length ≤ 1000) (hd : d ≤ 4) (hb : b < 2 ^ d) (hr : ShaReady w) :
    Calls Tryz.prog 31 #[.pointer (some ⟨tb, 0, none⟩), .int .i64 b, .int .i64 d, .slice la n c] w fun e w' => ∃ sv ub S, e = .returned (.tuple #[.agg #[.int .i64 b, .int .i64 d, .string (nodeB M d b), .string (nodeB (putsM M L) d b), sv], .pointer (some ⟨ub, 0, none⟩), .int .i64 0]) ∧ kvS S = L ∧ StepsOk w' M d b S ∧
      w'.ownsRow w.heap.size 148 6 sv S.length (stepsV d S) ∧ TreeK w.heap.size [] w' ub (putsM M L) ∧ w.grownBy w' none := by
  have hln : L.length = n := by obtain ⟨_, _, e, _⟩ := hL; injection e with _ e _; exact e.symm
  -- the boxes
  have g1 := World.grownBy_alloc w (.cells #[.int .i64 (b : Nat)] 3) none
  have hb1 := heap_alloc_at w (.cells #[.int .i64 (b : Nat)] 3) _ rfl
  obtain ⟨BB, hBB⟩ : ∃ BB, w.heap.size = BB := ⟨_, rfl⟩
  obtain ⟨W1, hW1⟩ : ∃ W1, w.alloc (.cells #[.int .i64 (b : Nat)] 3) = W1 := ⟨_, rfl⟩
  rw [hW1] at g1 hb1
  rw [hBB] at hb1
  have hs1 : W1.heap.size = BB + 1 := by rw [← hW1, World.size_alloc, hBB]
  have g2 := World.grownBy_alloc W1 (.cells #[.int .i64 (d : Nat)] 3) none
  have hb2 := heap_alloc_at W1 (.cells #[.int .i64 (d : Nat)] 3) _ hs1
  obtain ⟨W2, hW2⟩ : ∃ W2, W1.alloc (.cells #[.int .i64 (d : Nat)] 3) = W2 := ⟨_, rfl⟩
  rw [hW2] at g2 hb2
  have hs2 : W2.heap.size = BB + 1 + 1 := by rw [← hW2, World.size_alloc, hs1]
  have g3 := World.grownBy_alloc W2 (.cells #[.int .i64 0, .int .i64 0, .string ⟨#[]⟩, .string ⟨#[]⟩, .slice none 0 0] 57) none
  have hb3 := heap_alloc_at W2 (.cells #[.int .i64 0, .int .i64 0, .string ⟨#[]⟩, .string ⟨#[]⟩, .slice none 0 0] 57) _ hs2
  obtain ⟨W3, hW3⟩ : ∃ W3, W2.alloc (.cells #[.int .i64 0, .int .i64 0, .string ⟨#[]⟩, .string ⟨#[]⟩, .slice none 0 0] 57) = W3 := ⟨_, rfl⟩
  rw [hW3] at g3 hb3
  have hs3 : W3.heap.size = BB + 1 + 1 + 1 := by rw [← hW3, World.size_alloc, hs2]
  have hg3 := grownBy_trans (grownBy_trans g1 g2) g3
  have kb := (grownBy_trans g2 g3).heap hb1 (by simp)
  have kd := g3.heap hb2 (by simp)
  have cb : W3.cell? ⟨BB, 0, none⟩ = some (.int .i64 b) := by rw [cell_of kb]; rfl
  have cd : W3.cell? ⟨BB + 1, 0, none⟩ = some (.int .i64 d) := by rw [cell_of kd]; rfl
  have HB3 := Lib.hid (And.intro kb (And.intro kd (And.intro hb3 hg3)))
  have HWW := Lib.hid (And.intro hW1 (And.intro hW2 (And.intro hW3 (And.intro hs1 (And.intro hs2 hs3)))))
  have HT := Lib.hid hT
  have HP := Lib.hid (And.intro hP (And.intro hv hM))
  have HL := Lib.hid (And.intro hL (And.intro hk hln))
  have HR := Lib.hid hr
  have HBB := Lib.hid hBB
  have HD := Lib.hid (And.intro hd hb)
  have HDM := Lib.hid (fun w' => tdepth_any d hd w')
  have HIB := Lib.hid (fun w' => tisBand_any b d hb hd w')
  clear hT hP hv hM hL hk hln hr hd hb g1 g2 g3 hb1 hb2 hb3 hg3 kb kd hs1 hs2 hs3
  go_enter Tryz.func31, Tryz.ntmps31
  go_wp2_with (first | rw [hW1] | rw [hW2] | rw [hW3] | rw [hBB] | rw [HWW.out.2.2.2.1] | rw [HWW.out.2.2.2.2.1])
  refine (HDM.out _).mono ?_
  rintro e w4 ⟨rfl, g4⟩
  have cb4 := g4.cell cb (by simp)
  have cd4 := g4.cell cd (by simp)
  have HG4 := Lib.hid g4
  clear cb cd g4 hW1 hW2 hW3
  go_wp2_with fail
  refine (HIB.out _).mono ?_
  rintro e w5 ⟨rfl, g5⟩
  have cb5 := g5.cell cb4 (by simp)
  have cd5 := g5.cell cd4 (by simp)
  have HG5 := Lib.hid (grownBy_trans HG4.out g5)
  clear cb4 cd4 g5 HG4
  have HCT : Hid (Calls Tryz.prog 69 #[.slice la n c, .func (Fn.func 66) #[] #[.pointer (some ⟨BB, 0, none⟩), .pointer (some ⟨BB + 1, 0, none⟩)]] w5 fun e w' => e = .returned (.bool false) ∧ w5.grownBy w' none) :=
    Lib.hid (ccontains_any la n c L w5 _ _ (HL.out.1.grown (grownBy_trans HB3.out.2.2.2 HG5.out)) (by omega) (fun x w' hx q => make1_any x.1 x.2 (HL.out.2.1 x hx).1 d HD.out.1 BB (BB + 1) w' (by rw [(HL.out.2.1 x hx).2.2]; exact q.cell cb5 (by simp)) (q.cell cd5 (by simp))))
  go_wp2_with fail
  refine HCT.out.mono ?_
  rintro e w6 ⟨rfl, g6⟩
  have cb6 := g6.cell cb5 (by simp)
  have cd6 := g6.cell cd5 (by simp)
  have HG6 := Lib.hid (grownBy_trans HG5.out g6)
  have q256 : ¬ (n : Int) > 256 := by omega
  clear cb5 cd5 g6 HG5 HCT
  go_wp2_with fail
  have HFS := Lib.hid (fun w' => first_intB b d (by have := HD.out.1; omega) HD.out.2 w')
  refine (HFS.out _).mono ?_
  rintro e wf ⟨s, rfl, hs, g7⟩
  have cb7 := g7.cell cb6 (by simp)
  have cd7 := g7.cell cd6 (by simp)
  have HG7 := Lib.hid (grownBy_trans HG6.out g7)
  have hno : ∀ (N : List PairS), nodeAt N s (capD (d : Int)) = nodeB N d b := fun N => by
    rw [capD_at d (by have := HD.out.1; omega)]
    unfold nodeAt nodeB
    rw [start_band HD.out.2 hs.2]
  have HNB := Lib.hid (And.intro hno hs.1)
  clear cb6 cd6 g7 HG6 HFS hno hs
  clear w6
  rename World => w6
  have HNO : Hid (∀ w', w6.grownBy w' none → Calls Tryz.prog 61 #[.pointer (some ⟨tb, 0, none⟩), .string s, .int .i64 d] w' fun e w'' => e = .returned (.string (nodeB M d b)) ∧ w'.grownBy w'' none) := Lib.hid (fun w' q => by
    have q2 := grownBy_trans (grownBy_trans HB3.out.2.2.2 HG7.out) q
    have h := tnode_any n0 X w' tb M s (d : Int) (HT.out.grown q2) HP.out.1 HNB.out.2 (HR.out.grown q2)
    rw [HNB.out.1] at h
    exact h)
  generalize hND : nodeB M d b = ND at HNO ⊢
  have HND := Lib.hid hND
  clear hND
  have HCK : Hid (∀ w', w6.grownBy w' none → w'.cell? ⟨BB, 0, none⟩ = some (.int .i64 b) ∧ w'.cell? ⟨BB + 1, 0, none⟩ = some (.int .i64 d)) := Lib.hid (fun w' g => ⟨g.cell cb7 (by simp), g.cell cd7 (by simp)⟩)
  go_wp2_with fail
  go_cut [13] (fun xv wx => ∃ XB, xv = .pointer (some ⟨XB, 0, none⟩) ∧ Hid (wx.heap[XB]? = some (.cells #[.int .i64 b, .int .i64 d, .string ND, .string ⟨#[]⟩, .slice none 0 0] 57 (0, 0)) ∧ w6.grownBy wx none ∧ w6.heap.size ≤ XB))
  case first =>
    have gk : w6.grownBy w6.drew none := grownBy_drew (World.grownBy.refl _ _)
    have HFI : Hid (∀ (W : World) (B : Nat), w6.grownBy W none → W.heap[B]? = some (.cells #[.int .i64 0, .int .i64 0, .string ⟨#[]⟩, .string ⟨#[]⟩, .slice none 0 0] 57 (0, 0)) → w6.heap.size ≤ B →
        Hid ((((((W.setCell ⟨B, 0, none⟩ (.int .i64 b)).setCell ⟨B, 1, none⟩ (.int .i64 d)).setCell ⟨B, 2, none⟩ (.string ND)).setCell ⟨B, 3, none⟩ (.string ⟨#[]⟩)).setCell ⟨B, 4, none⟩ (.slice none 0 0)).heap[B]? = some (.cells #[.int .i64 b, .int .i64 d, .string ND, .string ⟨#[]⟩, .slice none 0 0] 57 (0, 0)) ∧
          w6.grownBy (((((W.setCell ⟨B, 0, none⟩ (.int .i64 b)).setCell ⟨B, 1, none⟩ (.int .i64 d)).setCell ⟨B, 2, none⟩ (.string ND)).setCell ⟨B, 3, none⟩ (.string ⟨#[]⟩)).setCell ⟨B, 4, none⟩ (.slice none 0 0)) none ∧ w6.heap.size ≤ B)) := Lib.hid (fun W B g hb hn => Lib.hid ⟨heap_setCell (heap_setCell (heap_setCell (heap_setCell (heap_setCell hb 0 _) 1 _) 2 _) 3 _) 4 _, by
          have t := (((((Turn.refl (fun i => i = B) W).setCell (fun _ => rfl) 0 (.int .i64 b)).setCell (fun _ => rfl) 1 (.int .i64 d)).setCell (fun _ => rfl) 2 (.string ND)).setCell (fun _ => rfl) 3 (.string ⟨#[]⟩)).setCell (fun _ => rfl) 4 (.slice none 0 0)
          exact grownBy_below (t.below (below_grownBy g) g.size (fun i hi e => by omega)), hn⟩)
    refine region_T (S := (fun w' => w'.cell? ⟨BB, 0, none⟩ = some (.int .i64 b) ∧ w'.cell? ⟨BB + 1, 0, none⟩ = some (.int .i64 d))) (T := [8]) (by kernel_rfl) ?hsm9 (fun hHeld => ?rgm9)
    case hsm9 => exact HCK.out _ gk
    case rgm9 =>
      refine AnyT.take (i := 0) (v := ?vm9_0) rfl (by kernel_rfl) (by kernel_rfl) (by kernel_rfl) (by kernel_rfl) (by kernel_rfl) (fun _ _ _ h => h) (Or.inl ⟨by kernel_rfl, ?hm9_0⟩) (by assumption) ?rm9_0
      case hm9_0 => (intro w0 hSw; (try dsimp only at hSw); go_simp; (try with_reducible rfl))
      try simp only [Act.put, List.setIfInBounds_toArray, List.set_cons_zero, List.set_cons_succ]
      refine AnyT.take (i := 1) (v := ?vm9_1) rfl (by kernel_rfl) (by kernel_rfl) (by kernel_rfl) (by kernel_rfl) (by kernel_rfl) (fun _ _ _ h => h) (Or.inl ⟨by kernel_rfl, ?hm9_1⟩) (by assumption) ?rm9_1
      case hm9_1 => (intro w0 hSw; (try dsimp only at hSw); go_simp; (try with_reducible rfl))
      try simp only [Act.put, List.setIfInBounds_toArray, List.set_cons_zero, List.set_cons_succ]
      refine AnyT.take (i := 2) (v := ?vm9_2) rfl (by kernel_rfl) (by kernel_rfl) (by kernel_rfl) (by kernel_rfl) (by kernel_rfl) (fun _ _ _ h => h) (Or.inl ⟨by kernel_rfl, ?hm9_2⟩) (by assumption) ?rm9_2
      case hm9_2 => (intro w0 hSw; (try dsimp only at hSw); go_simp; (try with_reducible rfl))
      try simp only [Act.put, List.setIfInBounds_toArray, List.set_cons_zero, List.set_cons_succ]
      refine AnyT.take (i := 3) (v := ?vm9_3) rfl (by kernel_rfl) (by kernel_rfl) (by kernel_rfl) (by kernel_rfl) (by kernel_rfl) (fun _ _ _ h => h) (Or.inl ⟨by kernel_rfl, ?hm9_3⟩) (by assumption) ?rm9_3
      case hm9_3 => (intro w0 hSw; (try dsimp only at hSw); go_simp; (try with_reducible rfl))
      try simp only [Act.put, List.setIfInBounds_toArray, List.set_cons_zero, List.set_cons_succ]
      refine AnyT.take (i := 4) (v := ?vm9_4) rfl (by kernel_rfl) (by kernel_rfl) (by kernel_rfl) (by kernel_rfl) (by kernel_rfl) (fun _ _ _ h => h) (Or.inl ⟨by kernel_rfl, ?hm9_4⟩) (by assumption) ?rm9_4
      case hm9_4 => (intro w0 hSw; (try dsimp only at hSw); go_simp; (try with_reducible rfl))
      try simp only [Act.put, List.setIfInBounds_toArray, List.set_cons_zero, List.set_cons_succ]
      refine AnyT.ready (rs := [5, 7]) (by kernel_rfl) (by simp) ?_
      refine AllT.cons rfl (fun K hK => ?am9_6) ?bm9_6
      case am9_6 =>
        (go_simp; go_at_call 61; (with_reducible refine (HNO.out _ gk).mono ?_); rintro e w7 ⟨rfl, g7⟩; have gk := grownBy_trans gk g7; have ck := HCK.out _ gk)
        refine hK.out _ _ ?sm9_6 (fun hHeld => ?tm9_6)
        case sm9_6 => exact ck
        case tm9_6 =>
          clear hK K
          try simp only [Act.put, List.setIfInBounds_toArray, List.set_cons_zero, List.set_cons_succ]
          refine AnyT.take (i := 6) (v := ?vm9_6) rfl (by kernel_rfl) (by kernel_rfl) (by kernel_rfl) (by kernel_rfl) (by kernel_rfl) (fun _ _ _ h => h) (Or.inl ⟨by kernel_rfl, ?hm9_6⟩) (by assumption) ?rm9_6
          case hm9_6 => (intro w0 hSw; (try dsimp only at hSw); go_simp; (try with_reducible rfl))
          try simp only [Act.put, List.setIfInBounds_toArray, List.set_cons_zero, List.set_cons_succ]
          refine AnyT.ready (rs := [7]) (by kernel_rfl) (by simp) ?_
          refine AllT.cons rfl (fun K hK => ?am9_8) ?bm9_8
          case am9_8 =>
            (have ga := World.grownBy_alloc w7 (.cells #[.int .i64 0, .int .i64 0, .string ⟨#[]⟩, .string ⟨#[]⟩, .slice none 0 0] 57) none; have xb := heap_alloc_at w7 (.cells #[.int .i64 0, .int .i64 0, .string ⟨#[]⟩, .string ⟨#[]⟩, .slice none 0 0] 57) _ rfl; have gk2 := grownBy_trans gk ga; have ck := HCK.out _ gk2; go_simp)
            refine hK.out _ _ ?sm9_8 (fun hHeld => ?tm9_8)
            case sm9_8 => exact ck
            case tm9_8 =>
              clear hK K
              try simp only [Act.put, List.setIfInBounds_toArray, List.set_cons_zero, List.set_cons_succ]
              refine AnyT.ready (rs := [8]) (by kernel_rfl) (by simp) ?_
              refine AllT.consT rfl (by simp) (fun K hK => ?am9_9) ?bm9_9
              case am9_9 =>
                go_simp
                refine hK.out _ _ ?_
                clear hK K
                try simp only [Act.put, List.setIfInBounds_toArray, List.set_cons_zero, List.set_cons_succ]
                refine AnyT.done (by kernel_rfl) ?_ _
                try dsimp only
                (go_wp2_with fail; go_meet; case rel => exact ⟨w7.heap.size, rfl, Lib.hid ⟨heap_alloc_at w7 _ _ rfl, grownBy_trans gk (World.grownBy_alloc w7 _ none), gk.size⟩⟩)
              case bm9_9 =>
                exact AllT.nil
          case bm9_8 =>
            exact AllT.nil
      case bm9_6 =>
        refine AllT.cons rfl (fun K hK => ?am9_10) ?bm9_10
        case am9_10 =>
          (have gb : w6.grownBy (w6.alloc (.cells #[.int .i64 0, .int .i64 0, .string ⟨#[]⟩, .string ⟨#[]⟩, .slice none 0 0] 57)).drew none := grownBy_drew (World.grownBy_alloc w6 (.cells #[.int .i64 0, .int .i64 0, .string ⟨#[]⟩, .string ⟨#[]⟩, .slice none 0 0] 57) none); have xb : (w6.alloc (.cells #[.int .i64 0, .int .i64 0, .string ⟨#[]⟩, .string ⟨#[]⟩, .slice none 0 0] 57)).drew.heap[w6.heap.size]? = _ := heap_alloc_at w6 (.cells #[.int .i64 0, .int .i64 0, .string ⟨#[]⟩, .string ⟨#[]⟩, .slice none 0 0] 57) _ rfl; have ck := HCK.out _ gb; go_simp)
          refine hK.out _ _ ?sm9_10 (fun hHeld => ?tm9_10)
          case sm9_10 => exact ck
          case tm9_10 =>
            clear hK K
            try simp only [Act.put, List.setIfInBounds_toArray, List.set_cons_zero, List.set_cons_succ]
            refine AnyT.ready (rs := [5]) (by kernel_rfl) (by simp) ?_
            refine AllT.cons rfl (fun K hK => ?am9_11) ?bm9_11
            case am9_11 =>
              (go_simp; go_at_call 61; (with_reducible refine (HNO.out _ gb).mono ?_); rintro e w7 ⟨rfl, g7⟩; have gb := grownBy_trans gb g7; have xb := g7.heap xb (by simp); have ck := HCK.out _ gb; have xc := cells5 xb; have x0 := xc.1; have x1 := xc.2.1; have x2 := xc.2.2.1; have x3 := xc.2.2.2.1; have x4 := xc.2.2.2.2; have xf := fun j => free_of xb j)
              refine hK.out _ _ ?sm9_11 (fun hHeld => ?tm9_11)
              case sm9_11 => exact ck
              case tm9_11 =>
                clear hK K
                try simp only [Act.put, List.setIfInBounds_toArray, List.set_cons_zero, List.set_cons_succ]
                refine AnyT.take (i := 6) (v := ?vm9_11) rfl (by kernel_rfl) (by kernel_rfl) (by kernel_rfl) (by kernel_rfl) (by kernel_rfl) (fun _ _ _ h => h) (Or.inl ⟨by kernel_rfl, ?hm9_11⟩) (by assumption) ?rm9_11
                case hm9_11 => (intro w0 hSw; (try dsimp only at hSw); go_simp; (try with_reducible rfl))
                try simp only [Act.put, List.setIfInBounds_toArray, List.set_cons_zero, List.set_cons_succ]
                refine AnyT.ready (rs := [8]) (by kernel_rfl) (by simp) ?_
                refine AllT.consT rfl (by simp) (fun K hK => ?am9_13) ?bm9_13
                case am9_13 =>
                  go_simp
                  refine hK.out _ _ ?_
                  clear hK K
                  try simp only [Act.put, List.setIfInBounds_toArray, List.set_cons_zero, List.set_cons_succ]
                  refine AnyT.done (by kernel_rfl) ?_ _
                  try dsimp only
                  (go_wp2_with fail; go_meet; case rel => exact ⟨w6.heap.size, rfl, HFI.out _ _ gb xb (Nat.le_refl _)⟩)
                case bm9_13 =>
                  exact AllT.nil
            case bm9_11 =>
              exact AllT.nil
        case bm9_10 =>
          exact AllT.nil
  case rest =>
    obtain ⟨XB, rfl, HX⟩ := hcut
    have HS3 := Lib.hid HWW.out.2.2.2.2.2
    have hgw : w.grownBy wc none := grownBy_trans (grownBy_trans HB3.out.2.2.2 HG7.out) HX.out.2.1
    have hl3 : BB + 1 + 1 + 1 ≤ wc.heap.size := by have h1 := (grownBy_trans HG7.out HX.out.2.1).size; have h2 := HS3.out; omega
    have hxl : XB < wc.heap.size := (Array.getElem?_eq_some_iff.1 HX.out.1).1
    have hxg : BB + 1 + 1 + 1 ≤ XB := by have h1 := HG7.out.size; have h2 := HS3.out; have h3 := HX.out.2.2; omega
    have kx := grownBy_trans HG7.out HX.out.2.1
    have hb1 := kx.heap HB3.out.1 (by simp)
    have hb2 := kx.heap HB3.out.2.1 (by simp)
    have hb3 := kx.heap HB3.out.2.2.1 (by simp)
    have htc := tcopy_any n0 X wc tb M (HT.out.grown hgw) w.heap.size hgw.size (BB :: (BB + 1) :: (BB + 1 + 1) :: XB :: (ownT (.slice none 0 0) ++ stepBs [])) (by
      intro y hy
      have hy : y = BB ∨ y = BB + 1 ∨ y = BB + 1 + 1 ∨ y = XB := by simpa [ownT, stepBs, Value.ownBlock] using hy
      omega)
    have HTC := Lib.hid htc
    have HK := Lib.hid (And.intro hb1 (And.intro hb2 (And.intro hb3 (And.intro HX.out.1 (And.intro hgw (And.intro hl3 (And.intro hxl hxg)))))))
    clear hgw hl3 hxl hxg kx hb1 hb2 hb3 htc HX
    go_wp2_with fail
    refine HTC.out.mono ?_
    rintro e w8 ⟨ub, rfl, hub, hT8, g8⟩
    have H8 : Hid (MkAt w M d b BB (BB + 1) (BB + 1 + 1) XB ub ND [] (.slice none 0 0) w8) := Lib.hid ⟨g8.heap HK.out.1 (by simp), g8.heap HK.out.2.1 (by simp), g8.heap HK.out.2.2.1 (by simp), g8.heap HK.out.2.2.2.1 (by simp), World.ownsRow_nil _ _ _ _, ⟨fun i hi => absurd hi (Nat.not_lt_zero _), (fun s hs => by cases hs), (fun s hs => by cases hs), (fun s hs => by cases hs)⟩, hT8, grownBy_trans HK.out.2.2.2.2.1 g8, by have h1 := HBB.out; have h2 := HK.out.2.2.2.2.2.2.2; omega, by have h2 := HK.out.2.2.2.2.2.2.2; simp; omega, (fun g e => by cases e), (fun g e => by simp [stepBs] at e)⟩
    clear hub hT8 g8 HTC HK
    go_wp2_with fail
    go_loopw [54] (fun iv wr => ∃ (k : Nat) (S : List StepS) (sv : Value), iv = .int .i64 k ∧ k ≤ n ∧ Hid (MkAt w M d b BB (BB + 1) (BB + 1 + 1) XB ub ND S sv wr) ∧ Hid (kvS S = L.take k ∧ S.length = k)) (fun iv _ => n - (intOf iv).toNat)
    case atStart => exact ⟨0, [], _, rfl, Nat.zero_le _, H8, Lib.hid ⟨rfl, rfl⟩⟩
    case round =>
      obtain ⟨k, S, sv, rfl, hkn, HM, HS⟩ := hrel
      by_cases hlt : k < n
      · have d1 : (k : Int) < (n : Int) := by omega
        obtain ⟨la', lc, hve, _, _, hce⟩ := HL.out.1
        injection hve with hq1 hq2 hq3
        subst hq1; subst hq2; subst hq3
        obtain ⟨g, o, rfl, c0, c1⟩ := hce k (by have := HL.out.2.2; omega)
        obtain ⟨y, hy⟩ : ∃ y, L[k]? = some y := ⟨_, List.getElem?_eq_getElem (by have := HL.out.2.2; omega)⟩
        have hye := (List.getElem?_eq_some_iff.1 hy).2
        rw [hye] at c0 c1
        have hkc : bandN y.1 d = b ∧ y.1.size = 16 ∧ y.2.size ≤ 1000 := by
          have h1 := HL.out.2.1 y (by rw [← hye]; exact List.getElem_mem _)
          exact ⟨h1.2.2, h1.1, h1.2.1⟩
        obtain ⟨hkv, rfl⟩ := HS.out
        obtain ⟨sa, sc, rfl⟩ := slice_own6 HM.out.row
        obtain ⟨y0, y1⟩ := y
        have HNX := Lib.hid (kvS_next hkv (by have := HL.out.2.2; omega) hye)
        have c0 := HM.out.g.cell c0 (by simp)
        have c1 := HM.out.g.cell c1 (by simp)
        have hall := putsM_all (fun x => x.1.size = 16 ∧ x.2.size ≤ 1000) (kvS S) M (fun x hx => ⟨HP.out.1.k16 x hx, HP.out.2.1 x hx⟩) (by
          rw [hkv]
          exact fun x hx => ⟨(HL.out.2.1 x (List.mem_of_mem_take hx)).1, (HL.out.2.1 x (List.mem_of_mem_take hx)).2.1⟩)
        have hkl : (kvS S).length = S.length := by unfold kvS; rw [List.length_map]
        have hfew : (putsM M (kvS S)).length ≤ 1256 := by have h1 := hall.2; have h2 := HP.out.2.2; omega
        have hA7 := World.grownBy_alloc wr (.cells #[.string y0, .string y1] 84) none
        have hb7 := heap_alloc_at wr (.cells #[.string y0, .string y1] 84) _ rfl
        obtain ⟨CB, hCB⟩ : ∃ CB, wr.heap.size = CB := ⟨_, rfl⟩
        obtain ⟨W7, hW7⟩ : ∃ W7, wr.alloc (.cells #[.string y0, .string y1] 84) = W7 := ⟨_, rfl⟩
        rw [hW7] at hA7 hb7
        rw [hCB] at hb7
        have HRO : Hid (RoundAt w M d b BB XB CB ub ND S (.slice sa S.length sc) y0 y1 wr W7.drew) := Lib.hid ⟨HM.out, grownBy_drew hA7, hb7, hCB, HR.out, hkc.1, hkc.2.1, hkc.2.2, ⟨fun x hx => (hall.1 x hx).1, fun x hx => by have := (hall.1 x hx).2; omega, by omega⟩, fun x hx => (hall.1 x hx).2, by omega, HD.out.1⟩
        obtain ⟨i0, hti, hz⟩ : ∃ i, Tryz.prog.info? 148 = some i ∧ (i.zero = some (.agg #[.string ⟨#[]⟩, .string ⟨#[]⟩, .slice none 0 0, .bool false, .string ⟨#[]⟩, .string ⟨#[]⟩]) ∧ i.size = 6 ∧ i.bytes = 96) := by
          have h1 := infoStep
          cases hh : Tryz.prog.info? 148 with
          | none => rw [hh] at h1; cases h1
          | some i =>
            rw [hh] at h1
            have h2 := Option.some.inj h1
            exact ⟨i, rfl, congrArg Prod.fst h2, congrArg (fun x => x.2.1) h2, congrArg (fun x => x.2.2) h2⟩
        obtain ⟨hz0, hz1, hz2⟩ := hz
        have HTI := Lib.hid (And.intro hti (And.intro hz0 (And.intro hz1 hz2)))
        clear hA7 hb7 hfew hkl hall hkv hkc hye hy hce hti hz0 hz1 hz2
        go_wp2_with (first | rw [hW7] | rw [hCB])
        obtain ⟨hti, hz0, hz1, hz2⟩ := HTI.out
        refine region_T (S := (fun w' => w'.cell? ⟨XB, 4, none⟩ = some (.slice sa S.length sc) ∧ w'.cell? ⟨CB, 0, none⟩ = some (.string y0) ∧ w'.cell? ⟨CB, 1, none⟩ = some (.string y1) ∧ w'.cell? ⟨BB + 1, 0, none⟩ = some (.int .i64 d))) (T := [9]) (by kernel_rfl) ?hsmb (fun hHeld => ?rgmb)
        case hsmb => exact HRO.out.r0
        case rgmb =>
          refine AnyT.take (i := 0) (v := ?vmb_0) rfl (by kernel_rfl) (by kernel_rfl) (by kernel_rfl) (by kernel_rfl) (by kernel_rfl) (fun _ _ _ h => h) (Or.inl ⟨by kernel_rfl, ?hmb_0⟩) (by assumption) ?rmb_0
          case hmb_0 => (intro w0 hSw; (try dsimp only at hSw); go_simp; (try with_reducible rfl))
          try simp only [Act.put, List.setIfInBounds_toArray, List.set_cons_zero, List.set_cons_succ]
          refine AnyT.take (i := 1) (v := ?vmb_1) rfl (by kernel_rfl) (by kernel_rfl) (by kernel_rfl) (by kernel_rfl) (by kernel_rfl) (fun _ _ _ h => h) (Or.inl ⟨by kernel_rfl, ?hmb_1⟩) (by assumption) ?rmb_1
          case hmb_1 => (intro w0 hSw; (try dsimp only at hSw); go_simp; (try with_reducible rfl))
          try simp only [Act.put, List.setIfInBounds_toArray, List.set_cons_zero, List.set_cons_succ]
          refine AnyT.take (i := 2) (v := ?vmb_2) rfl (by kernel_rfl) (by kernel_rfl) (by kernel_rfl) (by kernel_rfl) (by kernel_rfl) (fun _ _ _ h => h) (Or.inl ⟨by kernel_rfl, ?hmb_2⟩) (by assumption) ?rmb_2
          case hmb_2 => (intro w0 hSw; (try dsimp only at hSw); go_simp; (try with_reducible rfl))
          try simp only [Act.put, List.setIfInBounds_toArray, List.set_cons_zero, List.set_cons_succ]
          refine AnyT.take (i := 3) (v := ?vmb_3) rfl (by kernel_rfl) (by kernel_rfl) (by kernel_rfl) (by kernel_rfl) (by kernel_rfl) (fun _ _ _ h => h) (Or.inl ⟨by kernel_rfl, ?hmb_3⟩) (by assumption) ?rmb_3
          case hmb_3 => (intro w0 hSw; (try dsimp only at hSw); go_simp; (try with_reducible rfl))
          try simp only [Act.put, List.setIfInBounds_toArray, List.set_cons_zero, List.set_cons_succ]
          refine AnyT.take (i := 4) (v := ?vmb_4) rfl (by kernel_rfl) (by kernel_rfl) (by kernel_rfl) (by kernel_rfl) (by kernel_rfl) (fun _ _ _ h => h) (Or.inl ⟨by kernel_rfl, ?hmb_4⟩) (by assumption) ?rmb_4
          case hmb_4 => (intro w0 hSw; (try dsimp only at hSw); go_simp; (try with_reducible rfl))
          try simp only [Act.put, List.setIfInBounds_toArray, List.set_cons_zero, List.set_cons_succ]
          refine AnyT.ready (rs := [5]) (by kernel_rfl) (by simp) ?_
          refine AllT.cons rfl (fun K hK => ?amb_6) ?bmb_6
          case amb_6 =>
            (go_simp; go_at_call 70; (with_reducible refine HRO.out.step.mono ?_); rintro e w2 ⟨pa, pn, pc, q1, q2, q3, rfl, HQ1, HQ2⟩; have ck := HRO.out.r2 HQ2.out)
            refine hK.out _ _ ?smb_6 (fun hHeld => ?tmb_6)
            case smb_6 => exact ck
            case tmb_6 =>
              clear hK K
              try simp only [Act.put, List.setIfInBounds_toArray, List.set_cons_zero, List.set_cons_succ]
              refine AnyT.ready (rs := [6]) (by kernel_rfl) (by simp) ?_
              refine AllT.cons rfl (fun K hK => ?amb_7) ?bmb_7
              case amb_7 =>
                (have HB2 : Hid (w2.grownBy (w2.alloc (.cells #[.string y0, .string y1, .slice pa pn pc, .bool q1, .string q2, .string q3] 148)) none) := Lib.hid (World.grownBy_alloc w2 _ none); have ck := HRO.out.r3 HQ2.out HB2.out; go_simp)
                refine hK.out _ _ ?smb_7 (fun hHeld => ?tmb_7)
                case smb_7 => exact ck
                case tmb_7 =>
                  clear hK K
                  try simp only [Act.put, List.setIfInBounds_toArray, List.set_cons_zero, List.set_cons_succ]
                  refine AnyT.ready (rs := [7]) (by kernel_rfl) (by simp) ?_
                  refine AllT.cons rfl (fun K hK => ?amb_8) ?bmb_8
                  case amb_8 =>
                    (refine step_append_row _ rfl (.tmp 59) (.tmp 64) 55 rfl w.heap.size 148 i0 (.agg #[.string ⟨#[]⟩, .string ⟨#[]⟩, .slice none 0 0, .bool false, .string ⟨#[]⟩, .string ⟨#[]⟩]) 6 96 Tryz.underlying55 hti hz0 hz1 hz2 rfl (by decide) (.slice sa S.length sc) S.length (stepsV d S) rfl (HRO.out.row3 HQ2.out HB2.out) 0 1 (.slice (some ⟨w2.heap.size, 0, none⟩) 1 1) [.string y0, .string y1, .slice pa pn pc, .bool q1, .string q2, .string q3] rfl (own_step1 w2 _ _ _ _ _ _) (by simp [Value.oneCell']) (by unfold maxLen; omega) (by omega) (HRO.out.base3 HQ2.out HB2.out) ?_; intro v7 w7 ho7 hg7 hv7; obtain ⟨g4, c4, rfl⟩ := slice_pos ho7 (Nat.succ_pos _); have HO7 := Lib.hid (HRO.out.next HQ2.out HQ1.out ho7 hg7 hv7); have ck := HRO.out.r4 HQ2.out HB2.out hg7; have cx := ck.1; have xf := free_of (HRO.out.x4 HQ2.out HB2.out hg7) 4; clear ho7 hg7 hv7)
                    refine hK.out _ _ ?smb_8 (fun hHeld => ?tmb_8)
                    case smb_8 => exact ck
                    case tmb_8 =>
                      clear hK K
                      try simp only [Act.put, List.setIfInBounds_toArray, List.set_cons_zero, List.set_cons_succ]
                      refine AnyT.take (i := 8) (v := ?vmb_8) rfl (by kernel_rfl) (by kernel_rfl) (by kernel_rfl) (by kernel_rfl) (by kernel_rfl) (fun _ _ _ h => h) (Or.inl ⟨by kernel_rfl, ?hmb_8⟩) (by assumption) ?rmb_8
                      case hmb_8 => (intro w0 hSw; (try dsimp only at hSw); go_simp; (try with_reducible rfl))
                      try simp only [Act.put, List.setIfInBounds_toArray, List.set_cons_zero, List.set_cons_succ]
                      refine AnyT.ready (rs := [9]) (by kernel_rfl) (by simp) ?_
                      refine AllT.consT rfl (by simp) (fun K hK => ?amb_10) ?bmb_10
                      case amb_10 =>
                        go_simp
                        refine hK.out _ _ ?_
                        clear hK K
                        try simp only [Act.put, List.setIfInBounds_toArray, List.set_cons_zero, List.set_cons_succ]
                        refine AnyT.done (by kernel_rfl) ?_ _
                        try dsimp only
                        (go_wp2_with fail; go_roundw; (case rel => exact ⟨S.length + 1, S ++ [⟨y0, y1, putsM M (kvS S), .slice pa pn pc⟩], _, by go_num, by omega, HO7, Lib.hid (HNX.out _ _)⟩); (case measure => simp [intOf]; omega))
                      case bmb_10 =>
                        exact AllT.nil
                  case bmb_8 =>
                    exact AllT.nil
              case bmb_7 =>
                exact AllT.nil
          case bmb_6 =>
            exact AllT.nil
      · have d1 : ¬ (k : Int) < (n : Int) := by omega
        have hkv : kvS S = L := by rw [HS.out.1, List.take_of_length_le (by have := HL.out.2.2; omega)]
        obtain ⟨sa, sc, rfl⟩ := slice_own6 HM.out.row
        have hall := putsM_all (fun x => x.1.size = 16 ∧ x.2.size ≤ 1000) L M (fun x hx => ⟨HP.out.1.k16 x hx, HP.out.2.1 x hx⟩) (fun x hx => ⟨(HL.out.2.1 x hx).1, (HL.out.2.1 x hx).2.1⟩)
        have hpl : Plain (putsM M L) := ⟨fun x hx => (hall.1 x hx).1, fun x hx => by have := (hall.1 x hx).2; omega, by have h1 := hall.2; have h2 := HP.out.2.2; have h3 := HL.out.2.2; omega⟩
        have htr := HM.out.tree
        rw [hkv] at htr
        have HN2 : Hid (∀ w', wr.grownBy w' none → Calls Tryz.prog 61 #[.pointer (some ⟨ub, 0, none⟩), .string s, .int .i64 d] w' fun e w'' => e = .returned (.string (nodeB (putsM M L) d b)) ∧ w'.grownBy w'' none) := Lib.hid (fun w' q => by
          have h := tnode_any w.heap.size _ w' ub (putsM M L) s (d : Int) (htr.grown q) hpl HNB.out.2 (HR.out.grown (grownBy_trans HM.out.g q))
          rw [HNB.out.1] at h
          exact h)
        generalize hN2 : nodeB (putsM M L) d b = N2 at HN2 ⊢
        have HN3 := Lib.hid hN2
        clear hN2
        have HTR := Lib.hid (And.intro htr hkv)
        have xc := cells5 HM.out.xb
        have x0 := xc.1
        have x1 := xc.2.1
        have x2 := xc.2.2.1
        have x3 := xc.2.2.2.1
        have x4 := xc.2.2.2.2
        have xd : wr.cell? ⟨BB + 1, 0, none⟩ = some (.int .i64 d) := by rw [cell_of HM.out.db]; rfl
        clear hall hpl htr hkv xc
        go_wp2_with fail
        refine (HN2.out _ (World.grownBy.refl _ _)).mono ?_
        rintro e w9 ⟨rfl, g9⟩
        have H9 := Lib.hid (HM.out.grow g9)
        have HT9 := Lib.hid (HTR.out.1.grown g9)
        clear x0 x1 x2 x3 x4 xd HN2 g9
        have xc := cells5 H9.out.xb
        have x0 := xc.1
        have x1 := xc.2.1
        have x2 := xc.2.2.1
        have x3 := xc.2.2.2.1
        have x4 := xc.2.2.2.2
        have xf := fun j => free_of H9.out.xb j
        have rc := cells5 H9.out.rb
        have r0 := rc.1
        have r1 := rc.2.1
        have r2 := rc.2.2.1
        have r3 := rc.2.2.2.1
        have r4 := rc.2.2.2.2
        have rf := fun j => free_of H9.out.rb j
        have nrx : ¬ BB + 1 + 1 = XB := by have h := H9.out.nd; simp at h; omega
        have nxr : ¬ XB = BB + 1 + 1 := fun e => nrx e.symm
        clear xc rc
        go_wp2_with fail
        clear r0 r1 r2 r3 r4 x0 x1 x2 x3 x4 xf rf
        have t0 : Turn (fun i => i = XB) w9 (w9.setCell ⟨XB, 3, none⟩ (.string N2)) := (Turn.refl (fun i => i = XB) w9).setCell (fun _ => rfl) _ _
        have hr5 := heap_setCell (heap_setCell (heap_setCell (heap_setCell (heap_setCell (t0.heap H9.out.rb nrx) 0 (.int .i64 b)) 1 (.int .i64 d)) 2 (.string ND)) 3 (.string N2)) 4 (.slice sa S.length sc)
        have k5 : Turn (fun i => i = XB ∨ i = BB + 1 + 1) w9 ((((((w9.setCell ⟨XB, 3, none⟩ (.string N2)).setCell ⟨BB + 1 + 1, 0, none⟩ (.int .i64 b)).setCell ⟨BB + 1 + 1, 1, none⟩ (.int .i64 d)).setCell ⟨BB + 1 + 1, 2, none⟩ (.string ND)).setCell ⟨BB + 1 + 1, 3, none⟩ (.string N2)).setCell ⟨BB + 1 + 1, 4, none⟩ (.slice sa S.length sc)) :=
          ((((((Turn.refl (fun i => i = XB ∨ i = BB + 1 + 1) w9).setCell (fun _ => Or.inl rfl) _ _).setCell (fun _ => Or.inr rfl) _ _).setCell (fun _ => Or.inr rfl) _ _).setCell (fun _ => Or.inr rfl) _ _).setCell (fun _ => Or.inr rfl) _ _).setCell (fun _ => Or.inr rfl) _ _
        obtain ⟨W5, hW5⟩ : ∃ W5, (((((w9.setCell ⟨XB, 3, none⟩ (.string N2)).setCell ⟨BB + 1 + 1, 0, none⟩ (.int .i64 b)).setCell ⟨BB + 1 + 1, 1, none⟩ (.int .i64 d)).setCell ⟨BB + 1 + 1, 2, none⟩ (.string ND)).setCell ⟨BB + 1 + 1, 3, none⟩ (.string N2)).setCell ⟨BB + 1 + 1, 4, none⟩ (.slice sa S.length sc) = W5 := ⟨_, rfl⟩
        rw [hW5] at hr5 k5 ⊢
        clear hW5 t0
        obtain ⟨r0, r1, r2, r3, r4⟩ := cells5 hr5
        refine bodyPost_ret (v := .tuple #[.agg #[.int .i64 b, .int .i64 d, .string ND, .string N2, .slice sa S.length sc], .pointer (some ⟨ub, 0, none⟩), .int .i64 0]) (by simp [results, Tryz.results31, go_sem, r0, r1, r2, r3, r4]; try rfl) rfl ?_
        have h9 := H9.out
        have hgr : w.grownBy W5 none := grownBy_below ((k5.mono (T := rest w.heap.size []) (fun i _ e => ⟨by have := h9.lt; rcases e with rfl | rfl <;> omega, by simp⟩)).bel (below_grownBy h9.g) h9.g.size)
        have hrd := HR.out.grown hgr
        refine ⟨.slice sa S.length sc, ub, S, by rw [HND.out, HN3.out], HTR.out.2, ⟨h9.ok.m, fun s hs => ?_, h9.ok.band, h9.ok.vals⟩, ?_, HT9.out.turn k5 (fun i _ e => by rcases e with rfl | rfl <;> simp) (Y := []) (fun i hi => by cases hi), hgr⟩
        · have q0 := h9.ok.own s hs
          obtain ⟨B, hB⟩ := q0.row
          refine ⟨⟨B, own_turn hB k5 (fun g e q => ?_)⟩, hrd, q0.plain, q0.vals, q0.one, q0.k16, q0.d128⟩
          have h1 := (h9.sfar g (stepBs_mem hs e)).1
          rcases q with rfl | rfl <;> simp at h1
        · refine own_turn h9.row k5 (fun g e q => ?_)
          have h1 := (h9.far g e).1
          rcases q with rfl | rfl <;> simp at h1
end Go.Proofs.YtbhoeiopckmfhaaGreatDoor
