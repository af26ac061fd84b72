/- The walk of item.Show. -/
import Derived.Test.YtemgeelgkokpcaaDoorItmV
import Derived.Deep.LoopGhost
namespace Go.Proofs.YtemgeelgkokpcaaDoor
open Go.RowKit

mutual
def wkT : Tr → Nat
  | .num _ => 1
  | .text _ => 1
  | .list l => 2 + wkTs l
def wkTs : List Tr → Nat
  | [] => 0
  | t :: r => wkT t + wkTs r
end
def remF (f : FrS) : List UInt8 := showTs f.k (f.l.drop f.k)
def remA (fr : List FrS) : List UInt8 := fr.foldl (fun acc f => remF f ++ acc) []
theorem remA_snoc (fr : List FrS) (f : FrS) : remA (fr ++ [f]) = remF f ++ remA fr := by unfold remA; rw [List.foldl_append]; rfl
def workF (f : FrS) : Nat := 1 + wkTs (f.l.drop f.k)
def workA (fr : List FrS) : Nat := (fr.map workF).sum
theorem workA_snoc (fr : List FrS) (f : FrS) : workA (fr ++ [f]) = workA fr + workF f := by unfold workA; simp
theorem workA_len (fr : List FrS) : fr.length ≤ workA fr := by
  induction fr with
  | nil => simp
  | cons f r ih =>
    have : workA (f :: r) = workF f + workA r := by unfold workA; simp
    rw [this, List.length_cons]
    unfold workF
    omega
theorem rem_new {t : Tr} {fr' : List FrS} (h : FrNew t fr') (fr : List FrS) : headT t ++ remA (fr ++ fr') = showT t ++ remA fr ∧ workA (fr ++ fr') + 1 = workA fr + wkT t := by
  cases t with
  | num n =>
    have e : fr' = [] := h
    subst e
    rw [headT, showT, List.append_nil, wkT]
    exact ⟨rfl, rfl⟩
  | text s =>
    have e : fr' = [] := h
    subst e
    rw [headT, showT, List.append_nil, wkT]
    exact ⟨rfl, rfl⟩
  | list l =>
    obtain ⟨a, c, rfl⟩ := h
    rw [headT, showT, wkT, remA_snoc, workA_snoc]
    refine ⟨by unfold remF; simp, ?_⟩
    unfold workF
    simp only [List.drop_zero]
    omega
theorem rem_item {f : FrS} {t : Tr} (ht : f.l[f.k]? = some t) : remF f = (if 0 < f.k then [32] else []) ++ (showT t ++ remF { f with k := f.k + 1 }) ∧ workF f = wkT t + workF { f with k := f.k + 1 } := by
  obtain ⟨hk, he⟩ := List.getElem?_eq_some_iff.1 ht
  unfold remF workF
  rw [List.drop_eq_getElem_cons hk, he, showTs, wkTs]
  exact ⟨rfl, by dsimp only; omega⟩
/-- frames and what is in them -/
def FrGood (B : Nat) (w : World) (f : FrS) : Prop := FrOk B w f ∧ okTs f.l ∧ f.l.length ≤ 1000000
theorem itab_at {w : World} (h : Lib.TabIs Tryd.prog w "internal/strconv.uint64pow10" .u64 Lib.pow10Tab) : IT w.heap.size w := Lib.tabBelow_of_tabIs h
theorem sh_new (w : World) (sb : Nat) (hb : w.heap.size = sb) : ShAt sb sb [] [] (w.alloc (.cells #[.pointer none, .slice none 0 0, .slice none 0 0] 80)) :=
  ⟨.slice none 0 0, ⟨Nat.le_refl _, none, .slice none 0 0, .inl rfl, heap_alloc_at _ _ _ hb, World.ownsRow_nil _ _ _ _⟩, World.ownsRow_nil _ _ _ _⟩
theorem sh_cell {B sb : Nat} {out : List UInt8} {fr : List FrS} {w : World} (h : ShAt B sb out fr w) : ∃ a c, w.cell? ⟨sb, 2, none⟩ = some (.slice a fr.length c) := by
  obtain ⟨ov, ⟨_, p, v, _, hb, _⟩, hr⟩ := h
  rcases own_formI hr with ⟨rfl, h0⟩ | ⟨g, cap, rfl⟩
  · exact ⟨none, 0, by rw [h0, cell_of hb]; rfl⟩
  · exact ⟨_, _, by rw [cell_of hb]; rfl⟩
/-- what holds at the head of Show's loop -/
structure ShL (B sb : Nat) (t : Tr) (gn : Nat) (w : World) (out : List UInt8) (fr : List FrS) (wr : World) : Prop where
  sh : ShAt B sb out fr wr
  eq : out ++ remA fr = showT t
  wk : workA fr ≤ gn
  good : ∀ f ∈ fr, FrGood B wr f
  bel : Below B w wr
  sz : B ≤ wr.heap.size
theorem new_good {B : Nat} {w : World} {t : Tr} {fr' : List FrS} (hok : okT t) (h : FrNew t fr') (hf : ∀ f ∈ fr', FrOk B w f) : ∀ f ∈ fr', FrGood B w f := by
  intro f hm
  refine ⟨hf f hm, ?_⟩
  cases t with
  | num n => have e : fr' = [] := h; rw [e] at hm; simp at hm
  | text s => have e : fr' = [] := h; rw [e] at hm; simp at hm
  | list l =>
    obtain ⟨a, c, rfl⟩ := h
    rw [List.mem_singleton.1 hm]
    rw [okT] at hok
    exact ⟨hok.2, hok.1⟩
set_option maxRecDepth 100000 in
set_option maxHeartbeats 3200000 in
theorem ishow_any {P : Nat → Prop} (v : Value) (t : Tr) (w : World) (h : ItemAt w P v t) (hok : okT t) (hwk : wkT t ≤ 900) (hl : (showT t).length ≤ 400000000) (hT : IT w.heap.size w) :
    Calls Tryd.prog 12 #[v] w fun e w' => e = .returned (.string (str (showT t))) ∧ w.grownBy w' none := by
  obtain ⟨sb, hsb⟩ : ∃ sb, w.heap.size = sb := ⟨_, rfl⟩
  have hg0 := World.grownBy_alloc w (.cells #[.pointer none, .slice none 0 0, .slice none 0 0] 80) none
  have hs0 := sh_new w sb hsb
  obtain ⟨W0, hW0⟩ : ∃ W0, w.alloc (.cells #[.pointer none, .slice none 0 0, .slice none 0 0] 80) = W0 := ⟨_, rfl⟩
  rw [hW0] at hg0 hs0
  rw [hsb] at hT
  have hz0 := hg0.size
  rw [hsb] at hz0
  have hb0 : Below sb w W0 := below_grown hg0 (by omega)
  have h0 : ItemAt W0 (fun i => i < sb) v t := (h.mono (Q := fun i => i < sb) (fun i _ q => by omega)).grown hg0
  have hhl : (headT t).length ≤ 400000000 := by
    have e : headT t ++ remA ([] ++ (match t with | .list l => [(⟨none, 0, l, 0⟩ : FrS)] | _ => [])) = showT t ++ remA [] := (rem_new (t := t) (by cases t <;> first | rfl | exact ⟨_, _, rfl⟩) []).1
    have e2 := congrArg List.length e
    rw [List.length_append, List.length_append] at e2
    have : (remA []).length = 0 := rfl
    omega
  have HBE := Lib.hid (begin_ok t v sb sb [] [] W0 h0 hs0 (hT.below hb0) hz0 (by simp) (by simpa using hhl) (by simp) hok)
  have HW := Lib.hid (And.intro hW0 hsb)
  have HC := Lib.hid (And.intro hok (And.intro hwk (And.intro hl (And.intro hT hb0))))
  have HZ := Lib.hid hz0
  clear hg0 hs0 hW0 hT hz0 hb0 h0 hhl h hok hwk hl
  go_enter Tryd.func12, Tryd.ntmps12
  go_wp2_with (first | rw [HW.out.1, HW.out.2] | rw [HW.out.1])
  refine HBE.out.mono ?_
  rintro e w1 ⟨rfl, b1, fr', hs1, hf1, hn1⟩
  have H1 : Hid (ShL sb sb t 900 w (headT t) fr' w1) := Lib.hid (by
    have hr := rem_new hn1 []
    rw [List.nil_append] at hr
    have e0 : remA [] = [] := rfl
    have e1 : workA [] = 0 := rfl
    rw [List.nil_append, List.nil_append] at hs1
    exact ⟨hs1, by rw [hr.1, e0, List.append_nil], by have := HC.out.2.1; omega, new_good HC.out.1 hn1 hf1, HC.out.2.2.2.2.trans b1, Nat.le_trans HZ.out b1.size⟩)
  clear b1 hs1 hf1 hn1 HBE
  go_wp2_with fail
  go_loopg [] 900 (fun gn wr => ∃ (out : List UInt8) (fr : List FrS), gn ≤ 900 ∧ Hid (ShL sb sb t gn w out fr wr))
  case atStart => exact ⟨_, _, Nat.le_refl _, H1⟩
  case round =>
    clear H1
    obtain ⟨out, fr, hgn, HL⟩ := hrel
    have hol : out.length ≤ 400000000 := by
      have h1 := congrArg List.length HL.out.eq
      have h2 := HC.out.2.2.1
      rw [List.length_append] at h1
      omega
    obtain ⟨oa, oc, c2⟩ := sh_cell HL.out.sh
    rcases List.eq_nil_or_concat fr with rfl | ⟨fr0, f, hfr⟩
    · have heq : out = showT t := by have := HL.out.eq; rwa [show remA [] = [] from rfl, List.append_nil] at this
      subst heq
      have q0 : ¬ (0 : Int) < (([] : List FrS).length : Int) := by simp
      rw [List.length_nil] at c2
      obtain ⟨ov, hbi, _⟩ := HL.out.sh
      have HSI := Lib.hid (string_in _ [ov] sb sb _ wr hbi)
      clear hol q0 hbi
      go_wp2_with fail
      refine HSI.out.mono ?_
      rintro e w5 ⟨rfl, b5⟩
      have HF := Lib.hid (HL.out.bel.trans b5)
      clear b5
      go_wp2_with fail
      go_ret
      exact ⟨rfl, grownBy_below (by rw [HW.out.2]; exact HF.out)⟩
    · rw [List.concat_eq_append] at hfr
      subst hfr
      have hlen := workA_len (fr0 ++ [f])
      have hwk := HL.out.wk
      rw [List.length_append, List.length_singleton] at hlen c2
      have q0 : (0 : Int) < ((fr0.length + 1 : Nat) : Int) := by omega
      obtain ⟨hfo, hfk, hfl⟩ := HL.out.good f (by simp)
      by_cases hk : f.k = f.l.length
      · have HNX := Lib.hid (next_pop sb sb out fr0 f wr HL.out.sh hk hol (by omega) hfl HL.out.sz)
        have hw2 : workA fr0 + 1 ≤ gk := by
          rw [workA_snoc] at hwk
          unfold workF at hwk
          omega
        have heq : out ++ [93] ++ remA fr0 = showT t := by
          have := HL.out.eq
          rw [remA_snoc] at this
          unfold remF at this
          rw [hk, List.drop_length, showTs] at this
          rw [← this, List.append_assoc]
        have HQ := Lib.hid (And.intro hw2 heq)
        obtain ⟨n1, hn1⟩ : ∃ n1, fr0.length + 1 = n1 := ⟨_, rfl⟩
        rw [hn1] at c2 q0
        clear hlen hwk hfo hfk hfl hk hw2 heq hol hn1
        go_wp2_with fail
        refine HNX.out.mono ?_
        rintro e w5 ⟨rfl, b5, hs5⟩
        have HN5 : Hid (ShL sb sb t (gk - 1) w (out ++ [93]) fr0 w5) := Lib.hid ⟨hs5, HQ.out.2, by have := HQ.out.1; omega, fun x hx => by
          obtain ⟨g1, g2⟩ := HL.out.good x (by simp [hx])
          exact ⟨g1.below b5, g2⟩, HL.out.bel.trans b5, Nat.le_trans HL.out.sz b5.size⟩
        clear b5 hs5
        go_wp2_with fail
        go_roundg (gk - 1)
        case measure => have := HQ.out.1; omega
        case rel => exact ⟨_, _, by omega, HN5⟩
      · have hkl : f.k < f.l.length := by have := hfo.1; omega
        obtain ⟨x, hx⟩ : ∃ x, f.l[f.k]? = some x := ⟨_, List.getElem?_eq_getElem hkl⟩
        have hokx := okTs_mem hfk (List.mem_of_getElem? hx)
        obtain ⟨hr1, hr2⟩ := rem_item hx
        have hbl : (out ++ (if 0 < f.k then [32] else []) ++ headT x).length ≤ 400000000 := by
          have h1 := HL.out.eq
          rw [remA_snoc, hr1] at h1
          have e : headT x ++ remA ([] ++ (match x with | .list l => [(⟨none, 0, l, 0⟩ : FrS)] | _ => [])) = showT x ++ remA [] := (rem_new (t := x) (by cases x <;> first | rfl | exact ⟨_, _, rfl⟩) []).1
          have e2 := congrArg List.length e
          have h2 := congrArg List.length h1
          have h3 := HC.out.2.2.1
          simp only [List.length_append] at e2 h2 ⊢
          have : (remA []).length = 0 := rfl
          omega
        have HNX := Lib.hid (next_item sb sb out fr0 f wr x HL.out.sh hfo hx hokx (HC.out.2.2.2.1.below HL.out.bel) hbl (by omega) hfl HL.out.sz)
        have HQ := Lib.hid (And.intro hr1 (And.intro hr2 (And.intro hokx (And.intro hkl hwk))))
        obtain ⟨n1, hn1⟩ : ∃ n1, fr0.length + 1 = n1 := ⟨_, rfl⟩
        rw [hn1] at c2 q0
        clear hlen hwk hfo hfk hfl hk hol hn1 hbl hr1 hr2 hokx hkl hx
        go_wp2_with fail
        refine HNX.out.mono ?_
        rintro e w5 ⟨rfl, b5, hs5⟩
        have HN5 : Hid (1 ≤ gk ∧ ∃ out' fr2, ShL sb sb t (gk - 1) w out' fr2 w5) := Lib.hid (by
          obtain ⟨fr2, q1, q2, q3⟩ := hs5
          obtain ⟨hr1, hr2, hokx, hkl, hwk⟩ := HQ.out
          obtain ⟨hm1, hm2⟩ := rem_new q3 (fr0 ++ [{ f with k := f.k + 1 }])
          have heq := HL.out.eq
          rw [remA_snoc, hr1] at heq
          rw [workA_snoc, hr2] at hwk
          rw [remA_snoc] at hm1
          rw [workA_snoc] at hm2
          refine ⟨by omega, _, _, q1, ?_, by omega, fun y hy => ?_, HL.out.bel.trans b5, Nat.le_trans HL.out.sz b5.size⟩
          · rw [List.append_assoc, hm1, ← heq]
            simp only [List.append_assoc]
          · rcases List.mem_append.1 hy with hy | hy
            · rcases List.mem_append.1 hy with hy | hy
              · obtain ⟨g1, g2⟩ := HL.out.good y (by simp [hy])
                exact ⟨g1.below b5, g2⟩
              · rw [List.mem_singleton.1 hy]
                obtain ⟨g1, g2⟩ := HL.out.good f (by simp)
                have g1' := g1.below b5
                exact ⟨⟨hkl, g1'.2⟩, g2⟩
            · exact new_good hokx q3 q2 y hy)
        clear b5 hs5
        go_wp2_with fail
        go_roundg (gk - 1)
        case measure => have := HN5.out.1; omega
        case rel =>
          obtain ⟨_, o2, f2, hh⟩ := HN5.out
          exact ⟨o2, f2, by omega, Lib.hid hh⟩
end Go.Proofs.YtemgeelgkokpcaaDoor
