/- Plain words for After: what stands beside the way once the key has a value. No walk. · The walk of a proof's parted. · The walk of a proof's After. -/
import Derived.Test.YtheabbknflmnfaaDoorPrfVX
import Derived.Test.YtheabbknflmnfaaDoorPrfY
namespace Go.Proofs.YtheabbknflmnfaaDoor
attribute [local irreducible] shaL

/-- beside a key that parts from a leaf's at a bit: nothing down to there, then the leaf -/
def partB (k : Nat) (x : PairS) : List ByteArray := List.replicate k emptyS ++ [leafS x.1 x.2]
theorem side_put_off (key v : ByteArray) (d : Nat) (l : List PairS) : offS key d (setM l (key, v)) = offS key d l := by
  unfold offS setM side
  rw [List.filter_append, List.filter_filter]
  have hb := bitS_le key d
  have e1 : ([(key, v)] : List PairS).filter (fun x => bitS x.1 d == 1 - bitS key d) = [] := by
    rw [List.filter_eq_nil_iff]
    intro x hx
    rw [List.mem_singleton.1 hx]
    show ¬ (bitS key d == 1 - bitS key d) = true
    simp
    omega
  rw [e1, List.append_nil]
  refine List.filter_congr fun x _ => ?_
  by_cases h : x.1 = key
  · rw [h]
    have : (bitS key d == 1 - bitS key d) = false := by simp; omega
    rw [this, Bool.false_and]
  · simp [h]
theorem side_put_on (key v : ByteArray) (d : Nat) (l : List PairS) : onS key d (setM l (key, v)) = setM (onS key d l) (key, v) := by
  unfold onS setM side
  rw [List.filter_append, List.filter_filter, List.filter_filter]
  have e1 : ([(key, v)] : List PairS).filter (fun x => bitS x.1 d == bitS key d) = [(key, v)] := by simp
  rw [e1]
  congr 1
  refine List.filter_congr fun x _ => ?_
  rw [Bool.and_comm]
theorem two_way (key v : ByteArray) (x : PairS) (c : Nat) (hc : c < 128) (hne : bitS key c ≠ bitS x.1 c) : ∀ (k f d : Nat), d + f = 128 → c = d + k → (∀ i, i < c → bitS key i = bitS x.1 i) → wayB key f [x, (key, v)] d = partB k x ∧ restB key f [x, (key, v)] d = [(key, v)] := by
  have e1 : ∀ (f : Nat) (l : List PairS) (d : Nat), wayB key (f + 1) l d = if l.length < 2 then [] else nodeN f (offS key d l) (d + 1) :: wayB key f (onS key d l) (d + 1) := fun _ _ _ => rfl
  have e2 : ∀ (f : Nat) (l : List PairS) (d : Nat), restB key (f + 1) l d = if l.length < 2 then l else restB key f (onS key d l) (d + 1) := fun _ _ _ => rfl
  have hb := bitS_le key
  have hx := bitS_le x.1
  intro k
  induction k with
  | zero =>
    intro f d hd hcd hcommon
    have hd' : c = d := by omega
    subst hd'
    obtain ⟨f, rfl⟩ : ∃ g, f = g + 1 := ⟨f - 1, by omega⟩
    · have hon : onS key c [x, (key, v)] = [(key, v)] := by
        unfold onS side
        have : (bitS x.1 c == bitS key c) = false := by simp; exact fun e => hne e.symm
        simp [this]
      have hoff : offS key c [x, (key, v)] = [x] := by
        unfold offS side
        have h1 : (bitS x.1 c == 1 - bitS key c) = true := by have := hb c; have := hx c; simp; omega
        have h2 : (bitS key c == 1 - bitS key c) = false := by have := hb c; simp; omega
        simp [h1, h2]
      rw [e1, e2, if_neg (by simp), if_neg (by simp), hon, hoff, nodeN_one]
      have h3 : wayB key f [(key, v)] (c + 1) = [] ∧ restB key f [(key, v)] (c + 1) = [(key, v)] := by
        match f with
        | 0 => exact ⟨rfl, rfl⟩
        | f + 1 => rw [e1, e2, if_pos (by simp), if_pos (by simp)]; exact ⟨rfl, rfl⟩
      rw [h3.1, h3.2]
      exact ⟨rfl, rfl⟩
  | succ k ih =>
    intro f d hd hcd hcommon
    obtain ⟨f, rfl⟩ : ∃ g, f = g + 1 := ⟨f - 1, by omega⟩
    · have hsame := hcommon d (by omega)
      have hon : onS key d [x, (key, v)] = [x, (key, v)] := by
        unfold onS side
        simp [← hsame]
      have hoff : offS key d [x, (key, v)] = [] := by
        unfold offS side
        have h2 : (bitS key d == 1 - bitS key d) = false := by have := hb d; simp; omega
        simp [← hsame, h2]
      rw [e1, e2, if_neg (by simp), if_neg (by simp), hon, hoff, nodeN_nil]
      have h3 := ih f (d + 1) (by omega) (by omega) hcommon
      rw [h3.1, h3.2]
      exact ⟨rfl, rfl⟩
/-- what stands beside, once the key has a value: as before; or on to where it parts from the leaf that is there -/
def extB (key : ByteArray) (c n : Nat) : List PairS → List ByteArray
  | [] => []
  | x :: _ => if x.1 = key then [] else partB (c - n) x
theorem way_put (key v : ByteArray) (c : Nat) : ∀ (f d : Nat) (l : List PairS), d + f = 128 → Alike d l → (∀ x ∈ l, ∀ i, i < d → bitS key i = bitS x.1 i) → (∀ x ∈ restB key f l d, x.1 ≠ key → c < 128 ∧ bitS key c ≠ bitS x.1 c ∧ ∀ i, i < c → bitS key i = bitS x.1 i) →
    wayB key f (setM l (key, v)) d = wayB key f l d ++ extB key c (d + (wayB key f l d).length) (restB key f l d) ∧ restB key f (setM l (key, v)) d = [(key, v)] := by
  have e1 : ∀ (f : Nat) (l : List PairS) (d : Nat), wayB key (f + 1) l d = if l.length < 2 then [] else nodeN f (offS key d l) (d + 1) :: wayB key f (onS key d l) (d + 1) := fun _ _ _ => rfl
  have e2 : ∀ (f : Nat) (l : List PairS) (d : Nat), restB key (f + 1) l d = if l.length < 2 then l else restB key f (onS key d l) (d + 1) := fun _ _ _ => rfl
  have hsingle : ∀ (f d : Nat), wayB key f [(key, v)] d = [] ∧ restB key f [(key, v)] d = [(key, v)] := by
    intro f d
    match f with
    | 0 => exact ⟨rfl, rfl⟩
    | f + 1 => rw [e1, e2, if_pos (by simp), if_pos (by simp)]; exact ⟨rfl, rfl⟩
  have hsmall : ∀ (f d : Nat) (l : List PairS), d + f = 128 → l.length < 2 → (∀ x ∈ l, ∀ i, i < d → bitS key i = bitS x.1 i) → (∀ x ∈ l, x.1 ≠ key → c < 128 ∧ bitS key c ≠ bitS x.1 c ∧ ∀ i, i < c → bitS key i = bitS x.1 i) →
      wayB key f (setM l (key, v)) d = extB key c d l ∧ restB key f (setM l (key, v)) d = [(key, v)] := by
    intro f d l hd hl hag hc
    match l, hl with
    | [], _ => exact hsingle f d
    | [x], _ =>
      by_cases hk : x.1 = key
      · have : setM [x] (key, v) = [(key, v)] := by simp [setM, hk]
        rw [this]
        have h := hsingle f d
        rw [h.1, h.2]
        exact ⟨by simp [extB, hk], rfl⟩
      · have : setM [x] (key, v) = [x, (key, v)] := by simp [setM, hk]
        rw [this]
        have hcx := hc x List.mem_cons_self hk
        have hcd : d ≤ c := by
          rcases Nat.lt_or_ge c d with q | q
          · exact absurd (hag x List.mem_cons_self c q) hcx.2.1
          · exact q
        have h := two_way key v x c hcx.1 hcx.2.1 (c - d) f d hd (by omega) hcx.2.2
        exact ⟨by rw [h.1]; simp [extB, hk], h.2⟩
  intro f
  induction f with
  | zero =>
    intro d l hd hA hag hc
    have hl : l.length < 2 := by have := hA.few (by omega); omega
    exact hsmall 0 d l hd hl hag hc
  | succ f ih =>
    intro d l hd hA hag hc
    by_cases hl : l.length < 2
    · have h1 : wayB key (f + 1) l d = [] := by rw [e1, if_pos hl]
      have h2 : restB key (f + 1) l d = l := by rw [e2, if_pos hl]
      rw [h2] at hc
      rw [h1, h2]
      exact hsmall (f + 1) d l hd hl hag hc
    · have hl2 : ¬ (setM l (key, v)).length < 2 := by
        have hon := off_len key d l
        intro q
        have h3 : (setM l (key, v)).length = (l.filter fun p => !(decide (p.1 = key))).length + 1 := by simp [setM]
        have h4 : (l.filter fun p => !(decide (p.1 = key))).length = 0 := by omega
        have h5 := List.filter_eq_nil_iff.1 (List.length_eq_zero_iff.1 h4)
        have h6 : ∀ x ∈ l, x.1 = key := fun x hx => by have := h5 x hx; simpa using this
        have hp := hA.one
        rcases l with _ | ⟨x, _ | ⟨y, r⟩⟩
        · exact hl (by simp)
        · exact hl (by simp)
        · have := (List.pairwise_cons.1 hp).1 y List.mem_cons_self
          exact this ((h6 x List.mem_cons_self).trans (h6 y (List.mem_cons_of_mem _ List.mem_cons_self)).symm)
      have h1 : wayB key (f + 1) l d = nodeN f (offS key d l) (d + 1) :: wayB key f (onS key d l) (d + 1) := by rw [e1, if_neg hl]
      have h2 : restB key (f + 1) l d = restB key f (onS key d l) (d + 1) := by rw [e2, if_neg hl]
      rw [h2] at hc
      have h3 := ih (d + 1) (onS key d l) (by omega) hA.side (fun x hx i hi => by
        have hx2 := List.mem_filter.1 hx
        rcases Nat.lt_or_ge i d with q | q
        · exact hag x hx2.1 i q
        · have : i = d := by omega
          subst this
          have := hx2.2
          simp at this
          exact this.symm) hc
      have h5 : wayB key (f + 1) (setM l (key, v)) d = nodeN f (offS key d (setM l (key, v))) (d + 1) :: wayB key f (onS key d (setM l (key, v))) (d + 1) := by rw [e1, if_neg hl2]
      have h6 : restB key (f + 1) (setM l (key, v)) d = restB key f (onS key d (setM l (key, v))) (d + 1) := by rw [e2, if_neg hl2]
      rw [h5, h6, side_put_off, side_put_on, h3.1, h3.2, h1, h2]
      refine ⟨?_, rfl⟩
      rw [List.cons_append, List.length_cons, show d + 1 + (wayB key f (onS key d l) (d + 1)).length = d + ((wayB key f (onS key d l) (d + 1)).length + 1) by omega]
end Go.Proofs.YtheabbknflmnfaaDoor

namespace Go.Proofs.YtheabbknflmnfaaDoor
open Go.RowKit Go.Maps
attribute [local irreducible] shaL

theorem clone_own (B : Nat) (v : Value) (L : List ByteArray) (w : World) (hv : w.ownsRow B 9 1 v L.length (strsV L)) (hl : L.length ≤ 1000000) :
    Calls Tryd.prog 78 #[v] w fun e w' => ∃ v', e = .returned v' ∧ w'.ownsRow w.heap.size 9 1 v' L.length (strsV L) ∧ w.grownBy w' none := by
  rcases own_form' hv with ⟨rfl, h0⟩ | ⟨r, c, rfl, _, _⟩
  · refine (Tryd.slices_Clone_string_nil 0 0 w).mono ?_
    rintro e w'' ⟨rfl, rfl⟩
    rw [List.eq_nil_of_length_eq_zero h0]
    exact ⟨_, rfl, World.ownsRow_nil _ _ _ _, World.grownBy.refl _ _⟩
  · by_cases h0 : L.length = 0
    · rw [h0]
      refine (Tryd.slices_Clone_string_zero ⟨r, 0, none⟩ c w).mono ?_
      rintro e w'' ⟨v', rfl, q1, _, q2⟩
      rw [List.eq_nil_of_length_eq_zero h0]
      exact ⟨_, rfl, q1, grownBy_below q2⟩
    · refine (Tryd.slices_Clone_string r 0 L.length c L w (Nat.le_refl _) (by omega) (fun j hj => ?_)).mono ?_
      · rw [Nat.zero_add, str_cell hv (List.getElem?_eq_getElem hj), List.getD_eq_getElem?_getD, List.getElem?_eq_getElem hj]
        rfl
      · rintro e w'' ⟨v', rfl, q1, _, q2⟩
        rw [List.take_of_length_le (Nat.le_refl _)] at q1
        exact ⟨_, rfl, q1, grownBy_below q2⟩
set_option maxRecDepth 100000 in
set_option maxHeartbeats 4000000 in
theorem parted_any (B : Nat) (a : Option Addr) (c : Nat) (Wy : List ByteArray) (pk pv key : ByteArray) (d : Nat) (w : World) (hr : ShaReady w) (hv : w.ownsRow B 9 1 (.slice a Wy.length c) Wy.length (strsV Wy)) (hk : key.size = 16) (hpk : pk.size = 16) (hpv : pv.size ≤ 1000) (hd : d + Wy.length ≤ 128) (hbel : belowB pk key (d + Wy.length) = true) :
    Calls Tryd.prog 55 #[.agg #[.slice a Wy.length c, .bool true, .string pk, .string pv], .string key, .int .i64 d] w fun e w' => ∃ (cc : Nat) (v' : Value), e = .returned v' ∧ (cc ≤ 128 ∧ belowB key pk cc = true ∧ (cc < 128 → bitS key cc ≠ bitS pk cc)) ∧ (∃ B', w.heap.size ≤ B' ∧ w'.ownsRow B' 9 1 v' (Wy ++ partB (cc - (d + Wy.length)) (pk, pv)).length (strsV (Wy ++ partB (cc - (d + Wy.length)) (pk, pv)))) ∧ w.grownBy w' none := by
  obtain ⟨i0, hti, hz0, hz1, hz2⟩ := info_parts infoStrW
  have hb0 := ProofIn.new w (.slice a Wy.length c) true pk pv
  have hg0 : w.grownBy (w.alloc (.cells #[.slice a Wy.length c, .bool true, .string pk, .string pv] 51)) none := World.grownBy_alloc _ _ _
  have hcl := clone_own B _ Wy _ (own_keep hv hg0 (fun _ _ e => by cases e)) (by omega)
  have HCL := Lib.hid hcl
  have HR := Lib.hid hr
  have HCO := Lib.hid (fun (w' : World) => common_any key pk (by rw [hk]; decide) 16 hk hpk w')
  have HLF := Lib.hid (fun (w' : World) (q : w.grownBy w' none) => tleaf_any pk pv (by omega) (by omega) w' (hr.grown q))
  have HBEL := Lib.hid hbel
  obtain ⟨n, hn⟩ : ∃ n, Wy.length = n := ⟨_, rfl⟩
  have HN := Lib.hid hn
  rw [hn] at hd
  have HD := Lib.hid hd
  obtain ⟨W0, hW0⟩ : ∃ W0, w.alloc (.cells #[.slice a Wy.length c, .bool true, .string pk, .string pv] 51) = W0 := ⟨_, rfl⟩
  rw [hW0] at HCL hb0 hg0
  have h0c := hb0.cells
  have HW0 := Lib.hid hW0
  have H0 := Lib.hid (And.intro hb0 hg0)
  have hsz : w.heap.size < W0.heap.size := (Array.getElem?_eq_some_iff.1 hb0).1
  have HSZ := Lib.hid hsz
  clear hb0 hg0 hcl hr hv hbel hd hpv hsz
  rw [hn] at HCL h0c HW0 ⊢
  clear hn hW0
  go_enter Tryd.func55, Tryd.ntmps55
  go_wp2_with (rw [HW0.out])
  refine HCL.out.mono ?_
  rintro e w1 ⟨v1, rfl, ho1, g1⟩
  obtain ⟨a1, c1, rfl⟩ := slice_own' ho1
  have x0 := g1.cell h0c.1 (by simp)
  have x2 := g1.cell h0c.2.2.1 (by simp)
  have x3 := g1.cell h0c.2.2.2 (by simp)
  have H1 := Lib.hid (And.intro ho1 (And.intro (grownBy_trans H0.out.2 g1) g1))
  clear ho1 g1 h0c HCL
  go_wp2_with fail
  go_region_held3 (fun w' => w'.cell? ⟨w.heap.size, 0, none⟩ = some (.slice a n c) ∧ w'.cell? ⟨w.heap.size, 2, none⟩ = some (.string pk)) (first | exact ck | exact ⟨x0, x2⟩)
    (first
      | (go_at_call 79; (with_reducible refine (HCO.out _).mono ?_); rintro e w6 ⟨cc, rfl, hcc, g6⟩; have ck : w6.cell? ⟨w.heap.size, 0, none⟩ = some (.slice a n c) ∧ w6.cell? ⟨w.heap.size, 2, none⟩ = some (.string pk) := ⟨g6.cell x0 (by simp), g6.cell x2 (by simp)⟩; have hcc1 := hcc.1; have hdn := HD.out; have r1 : IntKind.i64.wrap ((cc : Int) - (d : Int)) = (cc : Int) - (d : Int) := IntWalk.i64_in _ (by omega); have r2 : IntKind.i64.wrap ((cc : Int) - (d : Int) - (n : Int)) = (cc : Int) - (d : Int) - (n : Int) := IntWalk.i64_in _ (by omega)))
  have hge : d + n ≤ cc := by
    rcases Nat.lt_or_ge cc (d + n) with q | q
    · exact absurd ((belowB_iff pk key (d + n)).1 (by rw [← HN.out]; exact HBEL.out) cc q).symm (hcc.2.2 (by omega))
    · exact q
  obtain ⟨k, hkk⟩ : ∃ k, cc - (d + n) = k := ⟨_, rfl⟩
  have hki : (cc : Int) - (d : Int) - (n : Int) = (k : Int) := by omega
  have hk128 : n + k ≤ 128 := by omega
  rw [hki]
  have g6' := grownBy_trans (grownBy_drew (World.grownBy.refl w1 none)) g6
  have y3 := g6'.cell x3 (by simp)
  have H6 : Hid (w6.ownsRow W0.heap.size 9 1 (.slice a1 n c1) n (strsV Wy) ∧ w.grownBy w6 none ∧ W0.heap.size ≤ w6.heap.size) := ⟨own_keep H1.out.1 g6' (fun _ _ e => by cases e), grownBy_trans H1.out.2.1 g6', Nat.le_trans H1.out.2.2.size g6'.size⟩
  have HCC := Lib.hid (And.intro hcc (And.intro hkk (And.intro ck.2 y3)))
  have hone : ∀ u ∈ [Value.string emptyS], u.oneCell' = true := one_textP emptyS
  have hfill : ∀ i, (Wy ++ List.replicate i emptyS).length = n + i := fun i => by rw [List.length_append, List.length_replicate, HN.out]
  have HF := Lib.hid (And.intro hone hfill)
  clear x0 x2 x3 ck hcc hcc1 hdn r1 r2 hge hkk hki g6 g6' y3 H1 hone hfill
  go_wp2_with fail
  go_loopw [7, 21] (fun vv iv wr => ∃ i : Nat, i ≤ k ∧ iv = .int .i64 i ∧ Hid (wr.ownsRow W0.heap.size 9 1 vv (n + i) (strsV (Wy ++ List.replicate i emptyS)) ∧ w.grownBy wr none ∧ W0.heap.size ≤ wr.heap.size) ∧ Hid (wr.cell? ⟨w.heap.size, 2, none⟩ = some (.string pk) ∧ wr.cell? ⟨w.heap.size, 3, none⟩ = some (.string pv))) (fun _ iv _ => k - (intOf iv).toNat)
  case atStart => exact ⟨0, Nat.zero_le _, rfl, Lib.hid ⟨by rw [List.replicate_zero, List.append_nil]; exact H6.out.1, H6.out.2⟩, HCC.out.2.2⟩
  case round =>
    obtain ⟨i, hi, rfl, HO, HC2⟩ := hrel
    obtain ⟨av, cv, rfl⟩ := slice_own' HO.out.1
    by_cases hlt : i < k
    · have e1 : (i : Int) < (k : Int) := by omega
      have hlm : n + i + 1 ≤ maxLen := by unfold maxLen; omega
      have hlm2 : (n + i + 1) * 16 ≤ 140737488355328 := by omega
      have HLM := Lib.hid (And.intro hlm hlm2)
      clear hlm hlm2
      go_wp2_with (at_builtin; refine wpList_append_own _ rfl _ _ 34 rfl W0.heap.size 9 i0 (.string ⟨#[]⟩) 1 16 Tryd.underlying34 hti hz0 hz1 hz2 rfl (by decide) _ _ _ rfl (HO.out.1.alloc _) ⟨wr.heap.size, 0, none⟩ 1 1 [.string emptyS] rfl rfl (cell_one_new _ _ _) HF.out.1 HLM.out.1 HLM.out.2 (Nat.le_trans HO.out.2.2 (by simp)) ?_)
      intro v' w3 ho hg3 _
      have e8 : strsV (Wy ++ List.replicate i emptyS) ++ [.string emptyS] = strsV (Wy ++ List.replicate (i + 1) emptyS) := by rw [push_strs, List.append_assoc, ← List.replicate_succ']
      have ho2 : w3.ownsRow W0.heap.size 9 1 v' (n + (i + 1)) (strsV (Wy ++ List.replicate (i + 1) emptyS)) := by rw [← e8]; exact ho
      have hlo := fun g e => (HO.out.1.lt g e).1
      have hg4 : w.grownBy w3 none := grown_row (grownBy_alloc' HO.out.2.1 _) hg3 (fun g e => by have := hlo g e; have := HSZ.out; omega)
      have hs4 : W0.heap.size ≤ w3.heap.size := by have h1 := hg3.size; rw [World.size_alloc] at h1; have := HO.out.2.2; omega
      have hc4 : w3.cell? ⟨w.heap.size, 2, none⟩ = some (.string pk) ∧ w3.cell? ⟨w.heap.size, 3, none⟩ = some (.string pv) := by
        have hne : ∀ g, (Value.slice av (n + i) cv).ownBlock = some g → g ≠ w.heap.size := fun g e => by have := hlo g e; have := HSZ.out; omega
        have k := fun (o : Nat) (u : Value) (h : wr.cell? ⟨w.heap.size, o, none⟩ = some u) => hg3.cell ((World.grownBy_alloc wr (.cells #[.string emptyS] 9) none).cell h (by simp)) (fun e => hne _ e.symm rfl)
        exact ⟨k 2 _ HC2.out.1, k 3 _ HC2.out.2⟩
      have HN4 := Lib.hid (And.intro ho2 (And.intro hg4 hs4))
      have HC4 := Lib.hid hc4
      clear ho hg3 e8 ho2 hlo hg4 hs4 hc4
      go_wp2_with fail
      go_roundw
      case rel => exact ⟨i + 1, by omega, by go_num, HN4.out, HC4.out⟩
      case measure => simp [intOf]; omega
    · have e1 : ¬ (i : Int) < (k : Int) := by omega
      have hik : i = k := by omega
      subst hik
      have c2 := HC2.out.1
      have c3 := HC2.out.2
      have hlf := HLF.out wr HO.out.2.1
      obtain ⟨LL, hLL⟩ : ∃ l, leafS pk pv = l := ⟨_, rfl⟩
      rw [hLL] at hlf
      have HLL := Lib.hid hLL
      have hlm : n + i + 1 ≤ maxLen := by unfold maxLen; omega
      have hlm2 : (n + i + 1) * 16 ≤ 140737488355328 := by omega
      have HLM := Lib.hid (And.intro hlm (And.intro hlm2 (one_textP LL)))
      have HLF2 := Lib.hid hlf
      clear hlm hlm2 hLL hlf
      go_wp2_with fail
      refine HLF2.out.mono ?_
      rintro e w4 ⟨rfl, g4⟩
      have HO4 := Lib.hid (And.intro (own_keep HO.out.1 g4 (fun _ _ e => by cases e)) (And.intro (grownBy_trans HO.out.2.1 g4) (Nat.le_trans HO.out.2.2 g4.size)))
      clear g4
      go_wp2_with (at_builtin; refine wpList_append_own _ rfl _ _ 34 rfl W0.heap.size 9 i0 (.string ⟨#[]⟩) 1 16 Tryd.underlying34 hti hz0 hz1 hz2 rfl (by decide) _ _ _ rfl (HO4.out.1.alloc _) ⟨w4.heap.size, 0, none⟩ 1 1 [.string LL] rfl rfl (cell_one_new _ _ _) HLM.out.2.2 HLM.out.1 HLM.out.2.1 (Nat.le_trans HO4.out.2.2 (by simp)) ?_)
      intro v' w5 ho hg5 _
      have HO5 := Lib.hid (And.intro ho hg5)
      clear ho hg5
      go_wp2_with fail
      go_ret
      refine ⟨cc, _, rfl, HCC.out.1, ⟨W0.heap.size, Nat.le_of_lt HSZ.out, ?_⟩, ?_⟩
      · have ho := HO5.out.1
        rw [push_strs] at ho
        have e9 : Wy ++ partB (cc - (d + n)) (pk, pv) = Wy ++ List.replicate i emptyS ++ [LL] := by
          rw [HCC.out.2.1, List.append_assoc, ← HLL.out]
          rfl
        rw [e9]
        have e10 : (Wy ++ List.replicate i emptyS ++ [LL]).length = n + i + 1 := by rw [List.length_append, HF.out.2]; rfl
        rw [e10]
        exact ho
      · exact grown_row (grownBy_alloc' HO4.out.2.1 _) HO5.out.2 (fun g e => by have := (HO4.out.1.lt g e).1; have := HSZ.out; omega)
end Go.Proofs.YtheabbknflmnfaaDoor

namespace Go.Proofs.YtheabbknflmnfaaDoor
open Go.RowKit Go.Maps
attribute [local irreducible] shaL

theorem start_put (M : List PairS) (key v : ByteArray) (d : Nat) : startM (setM M (key, v)) key d = setM (startM M key d) (key, v) := by
  unfold startM setM
  rw [List.filter_append, List.filter_filter, List.filter_filter]
  have e1 : ([(key, v)] : List PairS).filter (fun x => belowB x.1 key d) = [(key, v)] := by
    refine List.filter_eq_self.2 fun x hx => ?_
    rw [List.mem_singleton.1 hx]
    exact belowB_self _ _
  rw [e1]
  congr 1
  refine List.filter_congr fun x _ => ?_
  rw [Bool.and_comm]
theorem after_node {M : List PairS} (hone : M.Pairwise (fun p q => p.1 ≠ q.1)) (h16 : ∀ x ∈ M, x.1.size = 16) (key v : ByteArray) (hk : key.size = 16) (d : Nat) (hd : d ≤ 128) (c : Nat)
    (hc : ∀ x ∈ restT M key d, x.1 ≠ key → c < 128 ∧ bitS key c ≠ bitS x.1 c ∧ ∀ i, i < c → bitS key i = bitS x.1 i) :
    climbN key d (wayT M key d ++ extB key c (d + (wayT M key d).length) (restT M key d)) (leafS key v) = nodeAt (setM M (key, v)) key d := by
  have hA := start_alike hone h16 key d
  have h1 := way_put key v c (128 - d) d (startM M key d) (by omega) hA (fun x hx i hi => ((belowB_iff x.1 key d).1 (List.mem_filter.1 hx).2 i hi).symm) hc
  have hA2 := start_alike (setM_one hone (key, v)) (fun x hx => by
    rcases List.mem_append.1 hx with q | q
    · exact h16 x (List.mem_filter.1 q).1
    · rw [List.mem_singleton.1 q]; exact hk) key d
  have h2 := way_climb key (128 - d) d _ (by omega) hA2
  rw [start_put] at h2
  rw [h1.1, h1.2] at h2
  unfold nodeAt
  rw [start_put]
  exact h2
theorem OwnP.row' {w : World} {bv : Value} {M : List PairS} {key : ByteArray} {d : Nat} (h : OwnP w bv M key d) : ∃ B a c, bv = .slice a (wayT M key d).length c ∧ w.ownsRow B 9 1 (.slice a (wayT M key d).length c) (wayT M key d).length (strsV (wayT M key d)) := by
  obtain ⟨B, hB⟩ := h.row
  obtain ⟨a, c, rfl⟩ := slice_own' hB
  exact ⟨B, a, c, rfl, hB⟩
theorem key_ne (a b : ByteArray) (h : a ≠ b) : (a.toList == b.toList) = false := by rw [str_same]; simp [h]
theorem key_eq (a : ByteArray) : (a.toList == a.toList) = true := by simp
set_option maxRecDepth 100000 in
set_option maxHeartbeats 4000000 in
theorem OwnP.after {w : World} {bv : Value} {M : List PairS} {key : ByteArray} {d : Nat} (h : OwnP w bv M key d) (v : ByteArray) (hvs : v.size ≤ 1000) :
    Calls Tryd.prog 33 #[.agg #[bv, .bool (decide (restT M key d ≠ [])), .string (keyOf (restT M key d)), .string (valOf (restT M key d))], .string key, .string v, .int .i64 d] w fun e w' => e = .returned (.tuple #[.string (nodeAt (setM M (key, v)) key d), .int .i64 0]) ∧ w.grownBy w' none := by
  have hfew := restT_few h.one h.plain.k16 key d h.d128
  have hAN := after_node h.one h.plain.k16 key v h.k16 d h.d128
  have hGOOD := fun (w' : World) (g : w.grownBy w' none) => (h.grown g).good
  have hsizes := rest_size h.plain key d h.d128 h.vals
  have hLEAF := Lib.hid (fun (w' : World) (g : w.grownBy w' none) => tleaf_any key v (by rw [h.k16]; omega) (by omega) w' (h.ready.grown g))
  have hls : (leafS key v).size ≤ 17 := by rw [leafS_size]; exact Nat.le_refl _
  have hCL := fun (w' : World) (g : w.grownBy w' none) => h.climb (leafS key v) w' hls g
  obtain ⟨B, a, c, rfl, hrow⟩ := h.row'
  have hgd := goodT h.one h.plain.k16 key d h.d128
  have hlen := wayT_len M key d h.d128
  obtain ⟨LF, hLF⟩ : ∃ l, leafS key v = l := ⟨_, rfl⟩
  obtain ⟨ND, hND⟩ : ∃ l, nodeAt (setM M (key, v)) key d = l := ⟨_, rfl⟩
  rw [hLF] at hLEAF hCL hAN hls
  rw [hND] at hAN ⊢
  match hr : restT M key d, hfew with
  | [], _ =>
    rw [hr] at hGOOD hAN
    have hN := hAN 0 (fun x hx => by cases hx)
    have e0 : wayT M key d ++ extB key 0 (d + (wayT M key d).length) [] = wayT M key d := by simp [extB]
    rw [e0] at hN
    have hCL2 := hCL
    rw [hN] at hCL2
    obtain ⟨n, hn⟩ : ∃ n, (wayT M key d).length = n := ⟨_, rfl⟩
    rw [hn] at hGOOD hCL2 ⊢
    show Calls _ _ #[.agg #[.slice a n c, .bool false, .string ⟨#[]⟩, .string ⟨#[]⟩], _, _, _] w _
    have HG := Lib.hid (show ∀ (w' : World), w.grownBy w' none → Calls Tryd.prog 28 #[.agg #[.slice a n c, .bool false, .string ⟨#[]⟩, .string ⟨#[]⟩], .string key, .int .i64 d] w' fun e w'' => e = .returned (.bool true) ∧ w'.grownBy w'' none from hGOOD)
    have HCL := Lib.hid hCL2
    have hb0 := ProofIn.new w (.slice a n c) false ⟨#[]⟩ ⟨#[]⟩
    have hg0 : w.grownBy (w.alloc (.cells #[.slice a n c, .bool false, .string ⟨#[]⟩, .string ⟨#[]⟩] 51)) none := World.grownBy_alloc _ _ _
    clear hGOOD hAN hsizes hCL hrow hgd hlen hr hN e0 hCL2 hn h hLF hND hls
    go_enter Tryd.func33, Tryd.ntmps33
    go_wp2_with fail
    refine (HG.out _ hg0).mono ?_
    rintro e w1 ⟨rfl, g1⟩
    obtain ⟨x0, x1, x2, x3⟩ := (hb0.grown g1).cells
    have g1' := grownBy_trans hg0 g1
    obtain ⟨XB, hXB⟩ : ∃ XB, w.heap.size = XB := ⟨_, rfl⟩
    rw [hXB] at x0 x1 x2 x3 ⊢
    have G1 := Lib.hid g1'
    clear hb0 hg0 g1 g1' hXB
    go_wp2_with fail
    refine (hLEAF.out _ G1.out).mono ?_
    rintro e w2 ⟨rfl, g2⟩
    have G2 := Lib.hid (grownBy_trans G1.out g2)
    clear g2
    go_wp2_with fail
    refine (HCL.out _ G2.out).mono ?_
    rintro e w3 ⟨rfl, g3⟩
    have G3 := Lib.hid (grownBy_trans G2.out g3)
    clear g3
    go_wp2_with fail
    go_returns
    exact ⟨rfl, G3.out⟩
  | [x], _ =>
    obtain ⟨pk, pv⟩ := x
    rw [hr] at hGOOD hAN hsizes hgd
    have hkv : pk.size ≤ 1000 ∧ pv.size ≤ 1000 := hsizes
    show Calls _ _ #[.agg #[_, .bool true, .string pk, .string pv], _, _, _] w _
    have HG := Lib.hid (show ∀ (w' : World), w.grownBy w' none → Calls Tryd.prog 28 #[.agg #[.slice a (wayT M key d).length c, .bool true, .string pk, .string pv], .string key, .int .i64 d] w' fun e w'' => e = .returned (.bool true) ∧ w'.grownBy w'' none from hGOOD)
    have hb0 := ProofIn.new w (.slice a (wayT M key d).length c) true pk pv
    have hg0 : w.grownBy (w.alloc (.cells #[.slice a (wayT M key d).length c, .bool true, .string pk, .string pv] 51)) none := World.grownBy_alloc _ _ _
    by_cases hpk : pk = key
    · have hN := hAN 0 (fun y hy hne => absurd (by rw [List.mem_singleton.1 hy]; exact hpk) hne)
      have e0 : wayT M key d ++ extB key 0 (d + (wayT M key d).length) [(pk, pv)] = wayT M key d := by simp [extB, hpk]
      rw [e0] at hN
      have hCL2 := hCL
      rw [hN] at hCL2
      have HCL := Lib.hid hCL2
      obtain ⟨n, hn⟩ : ∃ n, (wayT M key d).length = n := ⟨_, rfl⟩
      rw [hn] at HG HCL hb0 hg0 ⊢
      have hkq := key_eq key
      subst hpk
      clear hGOOD hAN hsizes hCL hrow hgd hlen hr hN e0 hCL2 hn h hLF hND hls hkv
      go_enter Tryd.func33, Tryd.ntmps33
      go_wp2_with fail
      refine (HG.out _ hg0).mono ?_
      rintro e w1 ⟨rfl, g1⟩
      obtain ⟨x0, x1, x2, x3⟩ := (hb0.grown g1).cells
      have g1' := grownBy_trans hg0 g1
      obtain ⟨XB, hXB⟩ : ∃ XB, w.heap.size = XB := ⟨_, rfl⟩
      rw [hXB] at x0 x1 x2 x3 ⊢
      have G1 := Lib.hid g1'
      clear hb0 hg0 g1 g1' hXB
      go_wp2_with fail
      refine (hLEAF.out _ G1.out).mono ?_
      rintro e w2 ⟨rfl, g2⟩
      have G2 := Lib.hid (grownBy_trans G1.out g2)
      clear g2
      go_wp2_with fail
      refine (HCL.out _ G2.out).mono ?_
      rintro e w3 ⟨rfl, g3⟩
      have G3 := Lib.hid (grownBy_trans G2.out g3)
      clear g3
      go_wp2_with fail
      go_returns
      exact ⟨rfl, G3.out⟩
    · have hbel : pk.size = 16 ∧ belowB pk key (d + (wayT M key d).length) = true := by
        unfold goodB at hgd
        have h2 := (Bool.and_eq_true _ _ ▸ hgd).2
        have h3 : (decide (pk.size = 16) && belowB pk key (d + (wayT M key d).length)) = true := h2
        rw [Bool.and_eq_true, decide_eq_true_iff] at h3
        exact h3
      have hPT := fun (w' : World) (g : w.grownBy w' none) => parted_any B a c (wayT M key d) pk pv key d w' (h.ready.grown g) (own_keep hrow g (fun _ _ e => by cases e)) h.k16 hbel.1 hkv.2 hlen hbel.2
      have hws := way_small M key d
      have HH := Lib.hid (And.intro h.ready (And.intro h.k16 (And.intro hlen (And.intro hws (And.intro hls (And.intro hkv hbel))))))
      have HPT := Lib.hid hPT
      have HAN := Lib.hid hAN
      have HNE := Lib.hid hpk
      have hkn := key_ne pk key hpk
      obtain ⟨n, hn⟩ : ∃ n, (wayT M key d).length = n := ⟨_, rfl⟩
      have HWN := Lib.hid hn
      rw [hn] at HG HPT hb0 hg0 ⊢
      clear hGOOD hAN hsizes hCL hrow hgd hlen hr hn h hLF hND hls hkv hbel hPT hws hpk
      go_enter Tryd.func33, Tryd.ntmps33
      go_wp2_with fail
      refine (HG.out _ hg0).mono ?_
      rintro e w1 ⟨rfl, g1⟩
      obtain ⟨x0, x1, x2, x3⟩ := (hb0.grown g1).cells
      have g1' := grownBy_trans hg0 g1
      obtain ⟨XB, hXB⟩ : ∃ XB, w.heap.size = XB := ⟨_, rfl⟩
      rw [hXB] at x0 x1 x2 x3 ⊢
      have G1 := Lib.hid g1'
      clear hb0 hg0 g1 g1' hXB
      go_wp2_with fail
      refine (HPT.out _ G1.out).mono ?_
      rintro e w2 ⟨cc, v2, rfl, hcc, ⟨B2, hB2, ho2⟩, g2⟩
      have hcc128 : cc < 128 := by
        rcases Nat.lt_or_ge cc 128 with q | q
        · exact q
        · exact absurd (bits_key HH.out.2.2.2.2.2.2.1 HH.out.2.1 (fun i hi => ((belowB_iff key pk cc).1 hcc.2.1 i (by omega)).symm)) HNE.out
      have hN := HAN.out cc (fun y hy _ => by rw [List.mem_singleton.1 hy]; exact ⟨hcc128, hcc.2.2 hcc128, fun i hi => (belowB_iff key pk cc).1 hcc.2.1 i hi⟩)
      have e0 : extB key cc (d + (wayT M key d).length) [(pk, pv)] = partB (cc - (d + n)) (pk, pv) := by
        show (if pk = key then [] else partB (cc - (d + (wayT M key d).length)) (pk, pv)) = _
        rw [if_neg HNE.out, HWN.out]
      rw [e0] at hN
      have hge : d + n ≤ cc := by
        rcases Nat.lt_or_ge cc (d + n) with q | q
        · exact absurd ((belowB_iff pk key (d + (wayT M key d).length)).1 HH.out.2.2.2.2.2.2.2 cc (by rw [HWN.out]; exact q)).symm (hcc.2.2 hcc128)
        · exact q
      obtain ⟨a2, c2, rfl⟩ := slice_own' ho2
      have g12 := grownBy_trans G1.out g2
      have hcf := climb_fine _ _ key d w2 (HH.out.1.grown g12) (strs_own ho2) (fun s hs => by
        rcases List.mem_append.1 hs with q | q
        · have := HH.out.2.2.2.1 s q; omega
        · rcases List.mem_append.1 q with q | q
          · have := List.eq_of_mem_replicate q
            rw [this]; decide
          · rw [List.mem_singleton.1 q, leafS_size]; omega) HH.out.2.1 (by
        rw [List.length_append, HWN.out]
        simp [partB]
        omega) (fun g e => (ho2.lt g e).2)
      have HCF := Lib.hid (fun (w' : World) (g : w2.grownBy w' none) => hcf LF w' HH.out.2.2.2.2.1 g)
      rw [hN] at HCF
      obtain ⟨m, hm⟩ : ∃ m, (wayT M key d ++ partB (cc - (d + n)) (pk, pv)).length = m := ⟨_, rfl⟩
      rw [hm] at HCF ⊢
      have G2 := Lib.hid g12
      have HB2 := Lib.hid True.intro
      clear hcc hcc128 hN e0 hge g2 g12 hcf hB2 ho2 hm
      go_wp2_with fail
      refine (hLEAF.out _ G2.out).mono ?_
      rintro e w3 ⟨rfl, g3⟩
      have G3 := Lib.hid (And.intro (grownBy_trans G2.out g3) g3)
      clear g3
      go_wp2_with fail
      refine (HCF.out _ G3.out.2).mono ?_
      rintro e w4 ⟨rfl, g4⟩
      have G4 := Lib.hid (grownBy_trans G3.out.1 g4)
      clear g4
      go_wp2_with fail
      go_returns
      exact ⟨rfl, G4.out⟩
end Go.Proofs.YtheabbknflmnfaaDoor
