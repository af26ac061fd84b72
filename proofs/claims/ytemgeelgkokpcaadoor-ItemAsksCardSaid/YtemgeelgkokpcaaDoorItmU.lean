/- The walk of a shower's begin. -/
import Derived.Test.YtemgeelgkokpcaaDoorItmT
import Derived.Test.YtemgeelgkokpcaaDoorLay
import Derived.Lib.AppendIntMem
import Derived.Deep.RegionLaw
namespace Go.Proofs.YtemgeelgkokpcaaDoor
open Go.RowKit

/-- strconv's table, behind all calls that keep the blocks below B -/
def IT (B : Nat) (w : World) : Prop := ∀ w', Below B w w' → Lib.TabIs Tryd.prog w' "internal/strconv.uint64pow10" .u64 Lib.pow10Tab
theorem IT.below {B : Nat} {w w' : World} (h : IT B w) (k : Below B w w') : IT B w' := fun w'' k' => h w'' (k.trans k')
theorem fmt_any (n : Int) (h0 : -9223372036854775808 ≤ n) (h1 : n ≤ 9223372036854775807) (B : Nat) (w : World) (h : IT B w) (hB : B ≤ w.heap.size) :
    Calls Tryd.prog 50 #[.int .i64 n, .int .i64 10] w fun e w' => e = .returned (.string ⟨(Lib.itoa n).toArray⟩) ∧ w.grownBy w' none := by
  refine (Tryd.strconv_FormatInt_10 n h0 h1 w (h w (Below.refl _ _))).mono ?_
  rintro e w' ⟨rfl, k, os, rfl⟩
  exact ⟨rfl, grownBy_below (Lib.below_grow w.heap.size w (Nat.le_refl _) k os)⟩
def headT : Tr → List UInt8
  | .num n => Lib.itoa n
  | .text s => quoteL s.data.toList
  | .list _ => [91]
/-- an open list's items lie below B -/
def FrOk (B : Nat) (w : World) (f : FrS) : Prop := f.k ≤ f.l.length ∧ (0 < f.l.length → ∃ g, f.a = some ⟨g, 0, none⟩ ∧ g < B ∧ ItemsAt w (fun i => i < B) g 0 f.l)
theorem FrOk.below {B : Nat} {w w' : World} {f : FrS} (h : FrOk B w f) (k : Below B w w') : FrOk B w' f := by
  refine ⟨h.1, fun h0 => ?_⟩
  obtain ⟨g, e, hg, hi⟩ := h.2 h0
  exact ⟨g, e, hg, hi.keep (fun i o p e => (k.block i p).trans e) (fun _ p _ => p) g 0 _ hg⟩
theorem item_below {B : Nat} {w w' : World} {v : Value} {t : Tr} (h : ItemAt w (fun i => i < B) v t) (k : Below B w w') : ItemAt w' (fun i => i < B) v t :=
  ItemAt.keep (fun i o p e => (k.block i p).trans e) (fun _ p _ => p) v t h
theorem infoOL : (Tryd.prog.info? 120).map (fun i => (i.zero, i.size, i.bytes)) = some (some (.agg #[.slice none 0 0, .int .i64 0]), 2, 32) := by kernel_rfl
theorem sh_grown {B sb : Nat} {out : List UInt8} {fr : List FrS} {w w' : World} (h : ShAt B sb out fr w) (g : w.grownBy w' none) : ShAt B sb out fr w' := by
  obtain ⟨ov, ⟨hB, p, v, hp, hb, ho⟩, hr⟩ := h
  exact ⟨ov, ⟨hB, p, v, hp, g.heap hb (by simp), own_kept_I ho g⟩, own_kept_I hr g⟩
theorem below_grown {B : Nat} {w w' : World} (g : w.grownBy w' none) (hB : B ≤ w.heap.size) : Below B w w' := (below_grownBy g).mono hB
/-- the list that begins, if it is one -/
def FrNew : Tr → List FrS → Prop
  | .list l, fr' => ∃ a c, fr' = [⟨a, c, l, 0⟩]
  | _, fr' => fr' = []
/-- what begins -/
def BegOk (t : Tr) : Prop := ∀ (v : Value) (B sb : Nat) (out : List UInt8) (fr : List FrS) (w : World), ItemAt w (fun i => i < B) v t → ShAt B sb out fr w → IT B w → B ≤ w.heap.size → out.length ≤ 400000000 → (out ++ headT t).length ≤ 400000000 → fr.length ≤ 1000 → okT t →
    Calls Tryd.prog 30 #[.pointer (some ⟨sb, 0, none⟩), v] w fun e w' => e = .returned (.tuple #[]) ∧ Below B w w' ∧ ∃ fr', ShAt B sb (out ++ headT t) (fr ++ fr') w' ∧ (∀ f ∈ fr', FrOk B w' f) ∧ FrNew t fr'
set_option maxRecDepth 100000 in
set_option maxHeartbeats 1600000 in
theorem begin_num (n : Int) : BegOk (.num n) := by
  intro v B sb out fr w hv hS hT hB hl hl2 hf hok
  rw [ItemAt] at hv
  subst hv
  rw [okT] at hok
  rw [headT] at hl2 ⊢
  have HF := Lib.hid (fun w' (k : w.grownBy w' none) => fmt_any n hok.1 hok.2 B w' (hT.below (below_grown k hB)) (Nat.le_trans hB k.size))
  obtain ⟨S, hS0⟩ : ∃ S : ByteArray, ⟨(Lib.itoa n).toArray⟩ = S := ⟨_, rfl⟩
  have hSd : Lib.itoa n = S.data.toList := by rw [← hS0]
  rw [hS0] at HF
  rw [hSd] at hl2 ⊢
  have hsz : S.data.toList.length = S.size := by rw [Array.length_toList]; rfl
  have HW := Lib.hid (fun w' (k : w.grownBy w' none) => sh_text S (sh_grown hS k) (by rw [List.length_append, hsz] at hl2; omega))
  have HBL : Hid (∀ w', w.grownBy w' none → Below B w w') := Lib.hid (fun w' k => below_grown k hB)
  clear hS hT hB hl hl2 hf hok hS0 hSd hsz
  unfold vNum
  have gd : w.grownBy w.drew none := grownBy_drew (World.grownBy.refl w none)
  have HG := Lib.hid gd
  go_enter Tryd.func30, Tryd.ntmps30
  go_upto_region 3 with fail
  go_region_with (first
    | (go_at_call 50; (with_reducible refine (HF.out _ HG.out).mono ?_); rintro e w1 ⟨rfl, g1⟩; have HG1 := Lib.hid (grownBy_trans HG.out g1); clear g1)
    | (go_at_call 49; (with_reducible refine (HW.out _ HG1.out).mono ?_); rintro e w2 ⟨rfl, h2, b2⟩; have H2 := Lib.hid (And.intro h2 ((HBL.out _ HG1.out).trans b2)); clear h2 b2))
  all_goals
    go_wp2_with fail
    go_end0
    exact ⟨rfl, H2.out.2, [], by rw [List.append_nil]; exact H2.out.1, fun f h => by simp at h, rfl⟩
set_option maxRecDepth 100000 in
set_option maxHeartbeats 1600000 in
theorem begin_text (s : ByteArray) : BegOk (.text s) := by
  intro v B sb out fr w hv hS hT hB hl hl2 hf hok
  rw [ItemAt] at hv
  subst hv
  rw [okT] at hok
  rw [headT] at hl2 ⊢
  have HQ := Lib.hid (quote_any s B sb out fr w hS hok (by omega))
  clear hS hT hB hl hl2 hf hok
  unfold vText
  go_enter Tryd.func30, Tryd.ntmps30
  go_wp2_with fail
  refine HQ.out.mono ?_
  rintro e w1 ⟨rfl, h1, b1⟩
  have H1 := Lib.hid (And.intro h1 b1)
  clear h1 b1
  go_wp2_with fail
  go_end0
  exact ⟨rfl, H1.out.2, [], by rw [List.append_nil]; exact H1.out.1, fun f h => by simp at h, rfl⟩
set_option maxRecDepth 100000 in
set_option maxHeartbeats 3200000 in
theorem begin_list (l : List Tr) : BegOk (.list l) := by
  intro v B sb out fr w hv hS hT hB hl hl2 hf hok
  rw [ItemAt] at hv
  obtain ⟨lb, a, c, rfl, hlb, hlh, hit⟩ := hv
  rw [headT] at hl2 ⊢
  have HB1 := Lib.hid (sh_byte 91 91 rfl hS (by omega))
  have HL : Hid (∀ w', Below B w w' → w'.cell? ⟨lb, 0, none⟩ = some (.slice a l.length c)) := Lib.hid (fun w' k => by rw [World.cell?_of_block (a := ⟨lb, 0, none⟩) (k.block lb hlb), cell_of hlh]; rfl)
  have HI : Hid (FrOk B w ⟨a, c, l, 0⟩) := Lib.hid ⟨Nat.zero_le _, fun h0 => by
    obtain ⟨g, e, hg, hi⟩ := hit h0
    exact ⟨g, e, hg, hi⟩⟩
  obtain ⟨i0, hti, hz0, hz1, hz2⟩ := info_parts infoOL
  have HBW := Lib.hid hB
  clear hS hT hB hl hl2 hok hlh hit
  unfold vList
  go_enter Tryd.func30, Tryd.ntmps30
  go_wp2_with fail
  refine HB1.out.mono ?_
  rintro e w1 ⟨rfl, ⟨ov, ⟨hBb, p, bv, hp, hb, ho⟩, hr⟩, b1⟩
  have y0 := HL.out w1 b1
  obtain ⟨oa, oc, rfl⟩ : ∃ oa oc, ov = .slice oa fr.length oc := by
    rcases own_formI hr with ⟨rfl, h0⟩ | ⟨g, cap, rfl⟩
    · exact ⟨none, 0, by rw [h0]⟩
    · exact ⟨_, _, rfl⟩
  have r0 : w1.cell? ⟨sb, 2, none⟩ = some (.slice oa fr.length oc) := by rw [cell_of hb]; rfl
  have hne : (Value.slice oa fr.length oc).ownBlock ≠ some sb := fun e => by
    rcases hr.2 with ⟨h1, h2⟩ | ⟨g, cap, cur, h1, hBg, hg, _⟩
    · rw [h1] at e; simp [Value.ownBlock] at e
    · rw [h1] at e
      have e : g = sb := by simpa [Value.ownBlock] using e
      subst e
      rw [hg] at hb
      cases hb
  have hsbl := (Array.getElem?_eq_some_iff.1 hb).1
  have ga := World.grownBy_alloc w1 (.cells #[.slice a l.length c, .int .i64 0] 120) none
  have hba := heap_alloc_at w1 (.cells #[.slice a l.length c, .int .i64 0] 120) _ rfl
  have hsa := ga.heap hb (by simp)
  have hra := own_kept_I hr ga
  have hbs : B ≤ (w1.alloc (.cells #[.slice a l.length c, .int .i64 0] 120)).drew.heap.size := by
    show B ≤ (w1.alloc (.cells #[.slice a l.length c, .int .i64 0] 120)).heap.size
    rw [World.size_alloc]
    omega
  have hl1 : fr.length + 1 ≤ maxLen := by unfold maxLen; omega
  have hl3 : (fr.length + 1) * 32 ≤ 140737488355328 := by omega
  have HRA : Hid ((w1.alloc (.cells #[.slice a l.length c, .int .i64 0] 120)).drew.ownsRow B 120 2 (.slice oa fr.length oc) fr.length (frV fr)) := Lib.hid hra
  have HBA := Lib.hid hba
  have HSA := Lib.hid (And.intro hsa hne)
  have HL2 := Lib.hid (And.intro hl1 (And.intro hl3 hbs))
  have HOW := Lib.hid (And.intro hBb (And.intro hp (And.intro ho b1)))
  have HSB := Lib.hid (And.intro hb hsbl)
  have r1 : (w1.alloc (.cells #[.slice a l.length c, .int .i64 0] 120)).cell? ⟨sb, 2, none⟩ = some (.slice oa fr.length oc) := ga.cell r0 (by simp)
  have r2 : (w1.alloc (.cells #[.slice a l.length c, .int .i64 0] 120)).drew.cell? ⟨sb, 2, none⟩ = some (.slice oa fr.length oc) := r1
  have r3 : w1.drew.cell? ⟨sb, 2, none⟩ = some (.slice oa fr.length oc) := r0
  have y1 : (w1.alloc (.cells #[.slice a l.length c, .int .i64 0] 120)).cell? ⟨lb, 0, none⟩ = some (.slice a l.length c) := ga.cell y0 (by simp)
  have y2 : (w1.alloc (.cells #[.slice a l.length c, .int .i64 0] 120)).drew.cell? ⟨lb, 0, none⟩ = some (.slice a l.length c) := y1
  have y3 : w1.drew.cell? ⟨lb, 0, none⟩ = some (.slice a l.length c) := y0
  have hone : ∀ u ∈ [Value.slice a l.length c, .int .i64 0], u.oneCell' = true := fun u hu => by
    simp at hu
    rcases hu with rfl | rfl <;> rfl
  have HONE := Lib.hid hone
  clear ga hba hsa hra hbs hl1 hl3 hb ho hp hBb b1 hr hne hsbl hone
  go_upto_region 10 with fail
  go_region_law (refine step_append_lies _ rfl (.tmp 34) (.tmp 40) 78 rfl B 120 i0 (.agg #[.slice none 0 0, .int .i64 0]) 2 32 Tryd.underlying78 hti hz0 hz1 hz2 rfl (by decide) (.slice oa fr.length oc) fr.length (frV fr) rfl HRA.out ⟨w1.heap.size, 0, none⟩ 1 1 [.slice a l.length c, .int .i64 0] rfl rfl (World.news_of_block HBA.out) HONE.out Nat.zero_lt_one HL2.out.1 HL2.out.2.1 HL2.out.2.2 _ rfl ?_; intro g8 c8 w8 ho8 hg8 hor hlt8; have hrb8 := hg8.heap HSA.out.1 HSA.out.2; have r8 := cell_of hrb8 2; have rf8 := free_of hrb8 2)
  all_goals
    have hgr : g8 ≠ sb := fun e => by
      subst e
      rcases ho8.2 with ⟨h1, h2⟩ | ⟨g, cap, cur, h1, hBg, hg, _⟩
      · omega
      · have e : g8 = g := (by simpa using h1 : g8 = g ∧ c8 = cap).1
        subst e
        rw [hrb8] at hg
        cases hg
    have hh9 : (w8.setCell ⟨sb, 2, none⟩ (.slice (some ⟨g8, 0, none⟩) (fr.length + 1 : Nat) c8)).heap[sb]? = some (.cells #[.pointer p, bv, .slice (some ⟨g8, 0, none⟩) (fr.length + 1 : Nat) c8] 80 (0, 0)) := (heap_setCell hrb8 2 _).trans rfl
    have hg9 : w8.grownBy (w8.setCell ⟨sb, 2, none⟩ (.slice (some ⟨g8, 0, none⟩) (fr.length + 1 : Nat) c8)) (some sb) := grownBy_setCell (World.grownBy.refl w8 _) 2 _
    have HF : Hid (ShAt B sb (out ++ [91]) (fr ++ [⟨a, c, l, 0⟩]) (w8.setCell ⟨sb, 2, none⟩ (.slice (some ⟨g8, 0, none⟩) (fr.length + 1 : Nat) c8)) ∧ Below B w (w8.setCell ⟨sb, 2, none⟩ (.slice (some ⟨g8, 0, none⟩) (fr.length + 1 : Nat) c8))) := Lib.hid (by
      have hob := HOW.out.2.2.1
      have hobn : bv.ownBlock ≠ some sb := own_ne_b hob HSB.out.1 (by decide)
      have hrow : ∀ y, (Value.slice oa fr.length oc).ownBlock = some y → B ≤ y := fun y e => (HRA.out.lt y e).1
      have ho1 := own_kept_I hob (grownBy_drew (World.grownBy_alloc w1 (.cells #[.slice a l.length c, .int .i64 0] 120) none))
      have ho2 := own_keepI ho1 hg8 (fun y e q => by
        -- a row of bytes is no row of lists
        rcases HRA.out.2 with ⟨h1, h2⟩ | ⟨g, cap, cur, h1, hBg, hg, _⟩
        · rw [h1] at q; simp [Value.ownBlock] at q
        · rw [h1] at q
          have q : g = y := by simpa [Value.ownBlock] using q
          subst q
          rcases ho1.2 with ⟨k1, k2⟩ | ⟨g', cap', cur', k1, hBg', hg', _⟩
          · rw [k1] at e; simp [Value.ownBlock] at e
          · rw [k1] at e
            have e : g' = g := by simpa [Value.ownBlock] using e
            subst e
            rw [hg] at hg'
            cases hg')
      refine ⟨⟨_, ⟨HOW.out.1, p, bv, HOW.out.2.1, hh9, own_keepI ho2 hg9 (fun y e q => hobn (by rw [e, ← q]))⟩, ?_⟩, ?_⟩
      · rw [List.length_append, List.length_singleton, frV_append, frV_one]
        exact own_keepI ho8 hg9 (fun y e q => hgr (by have e : g8 = y := by simpa [Value.ownBlock] using e
                                                      rw [e]; exact (Option.some.inj q).symm))
      · have hb1 := HOW.out.2.2.2
        have hsz : B ≤ w1.heap.size := by have := HSB.out.2; have := HOW.out.1; omega
        refine hb1.trans (Below.trans (below_grown (grownBy_drew (World.grownBy_alloc w1 (.cells #[.slice a l.length c, .int .i64 0] 120) none)) hsz) (Below.trans ⟨hg8.os, hg8.tape, hg8.output, hg8.size, fun i hi => hg8.block i (by have := HL2.out.2.2; omega) (fun e => by have := hrow i e.symm; omega)⟩ ⟨hg9.os, hg9.tape, hg9.output, hg9.size, fun i hi => hg9.block i (by have := hg8.size; have := HL2.out.2.2; omega) (fun e => by have := Option.some.inj e; have := HOW.out.1; omega)⟩)))
    clear hh9 hg9 hgr r8 rf8 hrb8 hg8 ho8 hor hlt8 r0 r1 r2 r3 y0 y1 y2 y3
    go_wp2_with fail
    go_end0
    exact ⟨rfl, HF.out.2, _, HF.out.1, fun f h => by
      rw [List.mem_singleton.1 h]
      exact HI.out.below HF.out.2, ⟨a, c, rfl⟩⟩
theorem begin_ok : ∀ t, BegOk t
  | .num n => begin_num n
  | .text s => begin_text s
  | .list l => begin_list l
end Go.Proofs.YtemgeelgkokpcaaDoor
