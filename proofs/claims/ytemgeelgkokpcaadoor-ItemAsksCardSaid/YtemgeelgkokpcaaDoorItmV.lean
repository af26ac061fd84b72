/- The walk of a shower's next. -/
import Derived.Test.YtemgeelgkokpcaaDoorItmU
namespace Go.Proofs.YtemgeelgkokpcaaDoor
open Go.RowKit

/-- as ShAt, its row of lists named -/
def ShV (B sb : Nat) (out : List UInt8) (fr : List FrS) (ov : Value) (w : World) : Prop :=
  BuilderIn 80 [ov] B sb (Lib.byteCells out) w ∧ w.ownsRow B 120 2 ov fr.length (frV fr)
theorem sv_byte {B sb : Nat} {out : List UInt8} {fr : List FrS} {ov : Value} {w : World} (c : UInt8) (C : Int) (hC : (c.toNat : Int) = C) (h : ShV B sb out fr ov w) (hl : out.length ≤ 1000000000) :
    Calls Tryd.prog 52 #[.pointer (some ⟨sb, 0, none⟩), .int .u8 C] w fun e w' => e = .returned .nilIface ∧ ShV B sb (out ++ [c]) fr ov w' ∧ Below B w w' := by
  subst hC
  obtain ⟨hb, hr⟩ := h
  refine (writeByte_inB _ [ov] houses_shower B sb _ c.toNat w hb (by rw [Lib.byteCells_length]; omega)).mono ?_
  rintro e w' ⟨rfl, hL⟩
  obtain ⟨_, _, _, _, hh, _⟩ := hb
  exact ⟨rfl, ⟨by rw [byteCells_add]; exact hL.at_, row_others hr hh (by decide) hL.others⟩, hL.below⟩
theorem frV_set (fr0 : List FrS) (f : FrS) (k : Nat) : (frV (fr0 ++ [f])).set (fr0.length * 2 + 1) (.int .i64 k) = frV (fr0 ++ [{ f with k := k }]) := by
  rw [frV_append, frV_append, frV_one, frV_one, List.set_append_right _ _ (by rw [frV_len]; omega), frV_len, show fr0.length * 2 + 1 - fr0.length * 2 = 1 by omega]
  rfl
theorem frV_take (fr0 : List FrS) (f : FrS) : (frV (fr0 ++ [f])).take (fr0.length * 2) = frV fr0 := by
  have e : fr0.length * 2 = (frV fr0).length := (frV_len fr0).symm
  rw [frV_append, e, List.take_left]
theorem ShV.form {B sb : Nat} {out : List UInt8} {fr0 : List FrS} {f : FrS} {ov : Value} {w : World} (h : ShV B sb out (fr0 ++ [f]) ov w) : ∃ g c, ov = .slice (some ⟨g, 0, none⟩) (fr0.length + 1) c ∧ fr0.length + 1 ≤ c ∧ B ≤ g := by
  have hr := h.2
  rw [List.length_append, List.length_singleton] at hr
  rcases hr.2 with ⟨_, h0⟩ | ⟨g, cap, cur, e, hB, _, hn, _⟩
  · omega
  · exact ⟨g, cap, e, hn, hB⟩
theorem ShV.cells {B sb : Nat} {out : List UInt8} {fr0 : List FrS} {f : FrS} {g c : Nat} {w : World} (h : ShV B sb out (fr0 ++ [f]) (.slice (some ⟨g, 0, none⟩) (fr0.length + 1) c) w) :
    w.cell? ⟨sb, 2, none⟩ = some (.slice (some ⟨g, 0, none⟩) (fr0.length + 1) c) ∧ w.cell? ⟨g, fr0.length * 2, none⟩ = some (.slice f.a f.l.length f.c) ∧ w.cell? ⟨g, fr0.length * 2 + 1, none⟩ = some (.int .i64 f.k) ∧ w.frozen? ⟨g, fr0.length * 2 + 1, none⟩ = false ∧ w.frozen? ⟨sb, 2, none⟩ = false := by
  obtain ⟨⟨_, p, v, _, hb, _⟩, hr⟩ := h
  rw [List.length_append, List.length_singleton] at hr
  refine ⟨by rw [cell_of hb]; rfl, ?_, ?_, hr.frozenAt _, free_of hb 2⟩
  · rw [hr.cellAt _ (by omega), frV_append, frV_one, List.getElem?_append_right (by rw [frV_len]; omega), frV_len, Nat.sub_self]
    rfl
  · rw [hr.cellAt _ (by omega), frV_append, frV_one, List.getElem?_append_right (by rw [frV_len]; omega), frV_len, show fr0.length * 2 + 1 - fr0.length * 2 = 1 by omega]
    rfl
/-- the innermost list is left -/
theorem ShV.pop {B sb : Nat} {out : List UInt8} {fr0 : List FrS} {f : FrS} {g c : Nat} {w : World} (h : ShV B sb out (fr0 ++ [f]) (.slice (some ⟨g, 0, none⟩) (fr0.length + 1) c) w) :
    ShV B sb out fr0 (.slice (some ⟨g, 0, none⟩) fr0.length c) (w.setCell ⟨sb, 2, none⟩ (.slice (some ⟨g, 0, none⟩) fr0.length c)) ∧ w.grownBy (w.setCell ⟨sb, 2, none⟩ (.slice (some ⟨g, 0, none⟩) fr0.length c)) (some sb) := by
  obtain ⟨⟨hB, p, v, hp, hb, ho⟩, hr⟩ := h
  rw [List.length_append, List.length_singleton] at hr
  have hg : w.grownBy (w.setCell ⟨sb, 2, none⟩ (.slice (some ⟨g, 0, none⟩) fr0.length c)) (some sb) := grownBy_setCell (World.grownBy.refl w _) 2 _
  have hgs : g ≠ sb := fun e => by
    subst e
    rcases hr.2 with ⟨h1, _⟩ | ⟨g', cap, cur, h1, _, hg', _⟩
    · simp at h1
    · have e : g = g' := (by simpa using h1 : g = g' ∧ c = cap).1
      subst e
      rw [hb] at hg'
      cases hg'
  refine ⟨⟨⟨hB, p, v, hp, (heap_setCell hb 2 _).trans rfl, own_keepI ho hg (fun y e q => own_ne_b ho hb (by decide) (by rw [e, ← q]))⟩, ?_⟩, hg⟩
  refine own_keepI (v := .slice (some ⟨g, 0, none⟩) fr0.length c) ?_ hg (fun y e q => hgs (by
    have e : g = y := by simpa [Value.ownBlock] using e
    rw [e]; exact (Option.some.inj q).symm))
  refine ⟨frV_len _, ?_⟩
  rcases hr.2 with ⟨h1, _⟩ | ⟨g', cap, cur, h1, hBg, hg', hn, hm, hs, ht⟩
  · simp at h1
  · obtain ⟨e1, e2⟩ : g = g' ∧ c = cap := by simpa using h1
    subst e1 e2
    refine .inr ⟨g, c, cur, rfl, hBg, hg', by omega, hm, hs, ?_⟩
    rw [← frV_take fr0 f, ← ht, List.take_take, Nat.min_eq_left (by omega)]
/-- one more is shown -/
theorem ShV.shown {B sb : Nat} {out : List UInt8} {fr0 : List FrS} {f : FrS} {g c : Nat} {w : World} (k : Nat) (h : ShV B sb out (fr0 ++ [f]) (.slice (some ⟨g, 0, none⟩) (fr0.length + 1) c) w) :
    ShV B sb out (fr0 ++ [{ f with k := k }]) (.slice (some ⟨g, 0, none⟩) (fr0.length + 1) c) (w.setCell ⟨g, fr0.length * 2 + 1, none⟩ (.int .i64 k)) ∧ w.grownBy (w.setCell ⟨g, fr0.length * 2 + 1, none⟩ (.int .i64 k)) (some g) := by
  obtain ⟨⟨hB, p, v, hp, hb, ho⟩, hr⟩ := h
  rw [List.length_append, List.length_singleton] at hr
  have hst := hr.stored (fr0.length * 2 + 1) (.int .i64 k)
  rw [frV_set] at hst
  have hgs : some g ≠ some sb := fun e => by
    have e := Option.some.inj e
    subst e
    rcases hr.2 with ⟨h1, _⟩ | ⟨g', cap, cur, h1, _, hg', _⟩
    · simp at h1
    · have e : g = g' := (by simpa using h1 : g = g' ∧ c = cap).1
      subst e
      rw [hb] at hg'
      cases hg'
  have hgv : ∀ y, v.ownBlock = some y → some g ≠ some y := fun y e q => by
    have q := Option.some.inj q
    subst q
    rcases hr.2 with ⟨h1, _⟩ | ⟨g', cap, cur, h1, _, hg', _⟩
    · simp at h1
    · have e1 : g = g' := (by simpa using h1 : g = g' ∧ c = cap).1
      subst e1
      rcases ho.2 with ⟨k1, _⟩ | ⟨g2, cap2, cur2, k1, _, hg2, _⟩
      · rw [k1] at e; simp [Value.ownBlock] at e
      · rw [k1] at e
        have e : g2 = g := by simpa [Value.ownBlock] using e
        subst e
        rw [hg'] at hg2
        cases hg2
  exact ⟨⟨⟨hB, p, v, hp, hst.2.heap hb hgs, own_keepI ho hst.2 hgv⟩, by rw [List.length_append, List.length_singleton]; exact hst.1⟩, hst.2⟩
theorem sv_grown {B sb : Nat} {out : List UInt8} {fr : List FrS} {ov : Value} {w w' : World} (h : ShV B sb out fr ov w) (g : w.grownBy w' none) : ShV B sb out fr ov w' := by
  obtain ⟨⟨hB, p, v, hp, hb, ho⟩, hr⟩ := h
  exact ⟨⟨hB, p, v, hp, g.heap hb (by simp), own_kept_I ho g⟩, own_kept_I hr g⟩
theorem below_row {B r : Nat} {w w' : World} (g : w.grownBy w' (some r)) (hr : B ≤ r) (hB : B ≤ w.heap.size) : Below B w w' :=
  ⟨g.os, g.tape, g.output, g.size, fun i hi => g.block i (by omega) (fun e => by have := Option.some.inj e; omega)⟩
set_option maxRecDepth 100000 in
set_option maxHeartbeats 3200000 in
theorem next_pop (B sb : Nat) (out : List UInt8) (fr0 : List FrS) (f : FrS) (w : World) (h : ShAt B sb out (fr0 ++ [f]) w) (hk : f.k = f.l.length) (hl : out.length ≤ 400000000) (hf : fr0.length ≤ 1000000) (hfl : f.l.length ≤ 1000000) (hBw : B ≤ w.heap.size) :
    Calls Tryd.prog 31 #[.pointer (some ⟨sb, 0, none⟩)] w fun e w' => e = .returned (.tuple #[]) ∧ Below B w w' ∧ ShAt B sb (out ++ [93]) fr0 w' := by
  obtain ⟨ov, h⟩ := h
  obtain ⟨g, c, rfl, hnc, hBg⟩ := ShV.form h
  obtain ⟨y0, y1, y2, y3, y4⟩ := ShV.cells h
  have y1' : w.drew.cell? ⟨g, fr0.length * 2, none⟩ = some (.slice f.a f.l.length f.c) := y1
  have y2' : w.drew.cell? ⟨g, fr0.length * 2 + 1, none⟩ = some (.int .i64 f.k) := y2
  have gd : w.grownBy w.drew none := grownBy_drew (World.grownBy.refl w none)
  have HBY := Lib.hid (fun w' (k : w.grownBy w' none) => sv_byte 93 93 rfl (sv_grown h k) (by omega))
  have HG := Lib.hid (And.intro hBw hBg)
  obtain ⟨n0, hn0⟩ : ∃ n0, fr0.length = n0 := ⟨_, rfl⟩
  have q1 : (0 : Int) ≤ (n0 : Int) := by omega
  have q2 : (n0 : Int) < ((n0 + 1 : Nat) : Int) := by omega
  have q3 : IntKind.i64.wrap (((n0 + 1 : Nat) : Int) - 1) = (n0 : Int) := by rw [IntWalk.i64_in _ (by omega)]; omega
  have q4 : (n0 : Int) ≤ (c : Int) := by omega
  have HH : Hid (∀ w', ShV B sb (out ++ [93]) (fr0 ++ [f]) (.slice (some ⟨g, 0, none⟩) (n0 + 1) c) w' → w'.cell? ⟨sb, 2, none⟩ = some (.slice (some ⟨g, 0, none⟩) (n0 + 1) c) ∧ w'.frozen? ⟨sb, 2, none⟩ = false ∧ ShV B sb (out ++ [93]) fr0 (.slice (some ⟨g, 0, none⟩) n0 c) (w'.setCell ⟨sb, 2, none⟩ (.slice (some ⟨g, 0, none⟩) n0 c)) ∧ Below B w' (w'.setCell ⟨sb, 2, none⟩ (.slice (some ⟨g, 0, none⟩) n0 c))) := Lib.hid (fun w' h' => by
    rw [← hn0] at h' ⊢
    obtain ⟨z0, _, _, _, z4⟩ := ShV.cells h'
    obtain ⟨p1, p2⟩ := ShV.pop h'
    refine ⟨z0, z4, p1, ?_⟩
    have hsb := h'.1.1
    have := h'.1.lt
    exact below_row p2 hsb (by omega))
  obtain ⟨fa, fc, fl, fk⟩ := f
  dsimp only at *
  subst hk
  obtain ⟨M, hM⟩ : ∃ M, fl.length = M := ⟨_, rfl⟩
  rw [hn0] at y0 y1 y2 y1' y2' HBY
  rw [hM] at y1 y2 y1' y2' HBY HH
  have q5 : ((M : Int) == (M : Int)) = true := by simp
  obtain ⟨N1, hN1⟩ : ∃ N1, n0 + 1 = N1 := ⟨_, rfl⟩
  rw [hN1] at y0 q2 q3 HBY HH
  clear h y3 y4 hnc hBg hl hf hfl hM hN1 hn0 hBw
  go_enter Tryd.func31, Tryd.ntmps31
  go_upto_region 2 with fail
  go_cut [25] (fun v wx => v = .bool true ∧ Hid (w.grownBy wx none))
  case first =>
    go_region
    all_goals
      go_wp2_with fail
      go_meet
      case rel => exact ⟨rfl, Lib.hid gd⟩
  case rest =>
    rename World => wx
    obtain ⟨rfl, HX⟩ := hcut
    have HB1 := Lib.hid (HBY.out wx HX.out)
    clear y0 y1 y2 y1' y2' HBY
    go_wp2_with fail
    refine HB1.out.mono ?_
    rintro e w2 ⟨rfl, h2, b2⟩
    obtain ⟨z0, z1, z2, z3⟩ := HH.out w2 h2
    have HF := Lib.hid (And.intro z2 ((below_grown HX.out HG.out.1).trans (b2.trans z3)))
    clear h2 b2 z2 z3
    go_wp2_with fail
    refine bodyPost_ret (results_none rfl _ _ _) rfl ?_
    exact ⟨rfl, HF.out.2, _, HF.out.1⟩
/-- what is there behind a next that shows an item -/
def NextP (B sb : Nat) (out : List UInt8) (fr0 : List FrS) (f : FrS) (t : Tr) (w' : World) : Prop :=
  ∃ fr', ShAt B sb (out ++ (if 0 < f.k then [32] else []) ++ headT t) (fr0 ++ [{ f with k := f.k + 1 }] ++ fr') w' ∧ (∀ x ∈ fr', FrOk B w' x) ∧ FrNew t fr'
set_option maxRecDepth 100000 in
set_option maxHeartbeats 6400000 in
theorem next_item (B sb : Nat) (out : List UInt8) (fr0 : List FrS) (f : FrS) (w : World) (t : Tr) (h : ShAt B sb out (fr0 ++ [f]) w) (hfo : FrOk B w f) (ht : f.l[f.k]? = some t) (hok : okT t) (hT : IT B w) (hl : (out ++ (if 0 < f.k then [32] else []) ++ headT t).length ≤ 400000000) (hf : fr0.length ≤ 900) (hfl : f.l.length ≤ 1000000) (hBw : B ≤ w.heap.size) :
    Calls Tryd.prog 31 #[.pointer (some ⟨sb, 0, none⟩)] w fun e w' => e = .returned (.tuple #[]) ∧ Below B w w' ∧ NextP B sb out fr0 f t w' := by
  obtain ⟨ov, h⟩ := h
  obtain ⟨g, c, rfl, hnc, hBg⟩ := ShV.form h
  have hkl : f.k < f.l.length := (List.getElem?_eq_some_iff.1 ht).1
  obtain ⟨ig, hfa, hig, hits⟩ := hfo.2 (by omega)
  have hol : out.length ≤ 400000000 := by rw [List.length_append, List.length_append] at hl; omega
  have hol2 : (out ++ (if 0 < f.k then [32] else [])).length ≤ 400000000 := by rw [List.length_append] at hl; omega
  obtain ⟨n0, hn0⟩ : ∃ n0, fr0.length = n0 := ⟨_, rfl⟩
  obtain ⟨y0, y1, y2, y3, y4⟩ := ShV.cells h
  rw [hn0] at h y0 y1 y2 y3
  have gd : w.grownBy w.drew none := grownBy_drew (World.grownBy.refl w none)
  -- behind the blank
  have HST : Hid (∀ (O : List UInt8) (w1 : World), Below B w w1 → w.heap.size ≤ w1.heap.size → O.length ≤ 400000000 → (O ++ headT t).length ≤ 400000000 → ShV B sb O (fr0 ++ [f]) (.slice (some ⟨g, 0, none⟩) (n0 + 1) c) w1 →
      (w1.cell? ⟨g, n0 * 2, none⟩ = some (.slice (some ⟨ig, 0, none⟩) f.l.length f.c) ∧ w1.cell? ⟨g, n0 * 2 + 1, none⟩ = some (.int .i64 f.k) ∧ w1.frozen? ⟨g, n0 * 2 + 1, none⟩ = false) ∧
      ∃ v, ∀ w2, w1.setCell ⟨g, n0 * 2 + 1, none⟩ (.int .i64 (f.k + 1 : Nat)) = w2 → (w2.cell? ⟨g, n0 * 2, none⟩ = some (.slice (some ⟨ig, 0, none⟩) f.l.length f.c) ∧ w2.cell? ⟨g, n0 * 2 + 1, none⟩ = some (.int .i64 (f.k + 1 : Nat)) ∧ w2.cell? ⟨ig, f.k, none⟩ = some v) ∧
        ∀ w3, w2.grownBy w3 none → Calls Tryd.prog 30 #[.pointer (some ⟨sb, 0, none⟩), v] w3 fun e w' => e = .returned (.tuple #[]) ∧ Below B w w' ∧ ∃ fr', ShAt B sb (O ++ headT t) (fr0 ++ [{ f with k := f.k + 1 }] ++ fr') w' ∧ (∀ x ∈ fr', FrOk B w' x) ∧ FrNew t fr') := Lib.hid (fun O w1 b1 hs1 hO1 hO2 h1 => by
    rw [← hn0] at h1 ⊢
    obtain ⟨z0, z1, z2, z3, z4⟩ := ShV.cells h1
    obtain ⟨v, hv, hvt⟩ := hits.at_ ht
    rw [Nat.zero_add] at hv
    refine ⟨⟨by rw [← hfa]; exact z1, z2, z3⟩, v, fun w2 e2 => ?_⟩
    obtain ⟨s1, s2⟩ := ShV.shown (f.k + 1) h1
    rw [e2] at s1 s2
    have hs2 := s2.size
    have b2 : Below B w w2 := b1.trans (below_row s2 hBg (by omega))
    obtain ⟨x0, x1, x2, _, _⟩ := ShV.cells s1
    refine ⟨⟨by rw [← hfa]; exact x1, x2, ?_⟩, fun w3 g3 => ?_⟩
    · exact (World.cell?_of_block (a := ⟨ig, f.k, none⟩) (b2.block ig hig)).trans hv
    · have hs3 := g3.size
      have b3 : Below B w w3 := b2.trans (below_grown g3 (by omega))
      refine (begin_ok t v B sb O (fr0 ++ [{ f with k := f.k + 1 }]) w3 (item_below hvt b3) ⟨_, sv_grown s1 g3⟩ (hT.below b3) (by omega) hO1 hO2 (by rw [List.length_append, List.length_singleton]; omega) hok).mono ?_
      rintro e w' ⟨q1, q2, q3⟩
      exact ⟨q1, b3.trans q2, q3⟩)
  have HSP := Lib.hid (fun w' (k : w.grownBy w' none) => sv_byte 32 32 rfl (sv_grown h k) (by omega))
  have HBG : Hid (∀ w', w.grownBy w' none → Below B w w') := Lib.hid (fun w' k => below_grown k hBw)
  have HSV : Hid (∀ w', w.grownBy w' none → ShV B sb out (fr0 ++ [f]) (.slice (some ⟨g, 0, none⟩) (n0 + 1) c) w') := Lib.hid (fun w' k => sv_grown h k)
  obtain ⟨fa, fc, fl, fk⟩ := f
  dsimp only at *
  subst hfa
  have y1' : w.drew.cell? ⟨g, n0 * 2, none⟩ = some (.slice (some ⟨ig, 0, none⟩) fl.length fc) := y1
  have y2' : w.drew.cell? ⟨g, n0 * 2 + 1, none⟩ = some (.int .i64 fk) := y2
  obtain ⟨M, hM⟩ : ∃ M, fl.length = M := ⟨_, rfl⟩
  have HLL : Hid ((out ++ (if 0 < fk then [32] else []) ++ headT t).length ≤ 400000000 ∧ (out ++ (if 0 < fk then [32] else [])).length ≤ 400000000 ∧ out.length ≤ 400000000) := Lib.hid ⟨hl, hol2, hol⟩
  have q1 : (0 : Int) ≤ (n0 : Int) := by omega
  have q2 : (n0 : Int) < ((n0 + 1 : Nat) : Int) := by omega
  have q3 : IntKind.i64.wrap (((n0 + 1 : Nat) : Int) - 1) = (n0 : Int) := by rw [IntWalk.i64_in _ (by omega)]; omega
  have q5 : ((fk : Int) == (M : Int)) = false := beq_eq_false_iff_ne.2 (by omega)
  have q6 : IntKind.i64.wrap ((fk : Int) + 1) = ((fk + 1 : Nat) : Int) := by rw [IntWalk.i64_in _ (by omega)]; rfl
  have q7 : IntKind.i64.wrap (((fk + 1 : Nat) : Int) - 1) = (fk : Int) := by rw [IntWalk.i64_in _ (by omega)]; omega
  have q8 : (fk : Int) < (M : Int) := by omega
  have q9 : (0 : Int) ≤ (fk : Int) := by omega
  rw [hM] at y1 y1' HST
  obtain ⟨K1, hK1⟩ : ∃ K1, fk + 1 = K1 := ⟨_, rfl⟩
  obtain ⟨N1, hN1⟩ : ∃ N1, n0 + 1 = N1 := ⟨_, rfl⟩
  rw [hK1] at q6 q7
  rw [hN1] at y0 q2 q3 HSP HSV HST
  rw [hK1] at HST
  have HK1 := Lib.hid (And.intro hK1 hN1)
  clear h hfo ht hok hT hl hf hfl hBw hnc hBg hkl hig hits hol hol2 hn0 hM y3 y4 hK1 hN1
  go_enter Tryd.func31, Tryd.ntmps31
  go_upto_region 2 with fail
  go_cut [25] (fun v wx => v = .bool false ∧ Hid (w.grownBy wx none))
  case first =>
    go_region
    all_goals
      go_wp2_with fail
      go_meet
      case rel => exact ⟨rfl, Lib.hid gd⟩
  case rest =>
    rename World => wx
    obtain ⟨rfl, HX⟩ := hcut
    have hsx := HSV.out wx HX.out
    have hbx := HBG.out wx HX.out
    have c2 : wx.cell? ⟨g, n0 * 2 + 1, none⟩ = some (.int .i64 fk) := HX.out.cell y2 (by simp)
    clear y0 y1 y2 y1' y2' gd
    by_cases h0 : 0 < fk
    · have q10 : (0 : Int) < (fk : Int) := by omega
      have HB1 := Lib.hid (HSP.out wx HX.out)
      have HBX := Lib.hid hbx
      have HIF : Hid ((if 0 < fk then [32] else ([] : List UInt8)) = [32]) := Lib.hid (if_pos h0)
      clear hsx hbx h0 HSV HBG
      go_wp2_with fail
      refine HB1.out.mono ?_
      rintro e w2 ⟨rfl, h2, b2⟩
      have hl1 : (out ++ [32]).length ≤ 400000000 := by have := HLL.out.2.1; rwa [HIF.out] at this
      have hl2 : (out ++ [32] ++ headT t).length ≤ 400000000 := by have := HLL.out.1; rwa [HIF.out] at this
      have hs2 : w.heap.size ≤ w2.heap.size := Nat.le_trans HX.out.size b2.size
      obtain ⟨⟨z1, z2, z3⟩, v, hv⟩ := HST.out (out ++ [32]) w2 (HBX.out.trans b2) hs2 hl1 hl2 h2
      obtain ⟨W3, hW3⟩ : ∃ W3, (w2).setCell ⟨g, n0 * 2 + 1, none⟩ (.int .i64 (K1 : Nat)) = W3 := ⟨_, rfl⟩
      obtain ⟨⟨x1, x2, x3⟩, hbeg⟩ := hv W3 hW3
      have x1' : W3.drew.cell? ⟨g, n0 * 2, none⟩ = some (.slice (some ⟨ig, 0, none⟩) M fc) := x1
      have x2' : W3.drew.cell? ⟨g, n0 * 2 + 1, none⟩ = some (.int .i64 (K1 : Nat)) := x2
      have x3' : W3.drew.cell? ⟨ig, fk, none⟩ = some v := x3
      have HW3 := Lib.hid hW3
      have HBE := Lib.hid (hbeg W3.drew (grownBy_drew (World.grownBy.refl W3 none)))
      clear hv hbeg hW3 x1 x2 x3
      go_upto_region 8 with (rw [HW3.out])
      go_region_with ((go_at_call 30; (with_reducible refine HBE.out.mono ?_); rintro e w9 ⟨rfl, hb9, hs9⟩; have H9 := Lib.hid (And.intro hb9 hs9); clear hb9 hs9))
      all_goals
        go_wp2_with fail
        go_end0
        obtain ⟨e1, e2⟩ := HK1.out
        subst e1 e2
        exact ⟨rfl, H9.out.1, by unfold NextP; dsimp only; rw [HIF.out]; exact H9.out.2⟩
    · have q10 : ¬ (0 : Int) < (fk : Int) := by omega
      have HIF : Hid ((if 0 < fk then [32] else ([] : List UInt8)) = []) := Lib.hid (if_neg h0)
      have hl2 : (out ++ headT t).length ≤ 400000000 := by have := HLL.out.1; rwa [HIF.out, List.append_nil] at this
      have hs2 : w.heap.size ≤ wx.heap.size := HX.out.size
      clear h0 HSP HSV HBG
      obtain ⟨⟨z1, z2, z3⟩, v, hv⟩ := HST.out out wx hbx hs2 HLL.out.2.2 hl2 hsx
      obtain ⟨W3, hW3⟩ : ∃ W3, (wx).setCell ⟨g, n0 * 2 + 1, none⟩ (.int .i64 (K1 : Nat)) = W3 := ⟨_, rfl⟩
      obtain ⟨⟨x1, x2, x3⟩, hbeg⟩ := hv W3 hW3
      have x1' : W3.drew.cell? ⟨g, n0 * 2, none⟩ = some (.slice (some ⟨ig, 0, none⟩) M fc) := x1
      have x2' : W3.drew.cell? ⟨g, n0 * 2 + 1, none⟩ = some (.int .i64 (K1 : Nat)) := x2
      have x3' : W3.drew.cell? ⟨ig, fk, none⟩ = some v := x3
      have HW3 := Lib.hid hW3
      have HBE := Lib.hid (hbeg W3.drew (grownBy_drew (World.grownBy.refl W3 none)))
      clear hv hbeg hW3 x1 x2 x3
      go_upto_region 8 with (rw [HW3.out])
      go_region_with ((go_at_call 30; (with_reducible refine HBE.out.mono ?_); rintro e w9 ⟨rfl, hb9, hs9⟩; have H9 := Lib.hid (And.intro hb9 hs9); clear hb9 hs9))
      all_goals
        go_wp2_with fail
        go_end0
        obtain ⟨e1, e2⟩ := HK1.out
        subst e1 e2
        exact ⟨rfl, H9.out.1, by unfold NextP; dsimp only; rw [HIF.out, List.append_nil]; exact H9.out.2⟩
end Go.Proofs.YtemgeelgkokpcaaDoor
