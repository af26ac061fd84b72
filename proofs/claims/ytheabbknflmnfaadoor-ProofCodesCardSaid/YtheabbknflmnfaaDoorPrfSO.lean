/- The walk of layer 14's laws' both. · Arguments opened: lists of puts (layer 14's laws). No walk. -/
import Derived.Test.YtheabbknflmnfaaDoorPrfKT
import Derived.Test.YtheabbknflmnfaaDoorSmtG
import Derived.Test.YtheabbknflmnfaaDoorSmtP
import Derived.Deep.DeepCutAuto
import Derived.Deep.RegionHeld3
import Derived.Test.YtheabbknflmnfaaDoorOpen
import Derived.Deep.Slices
import Derived.Deep.Fields
namespace Go.Proofs.YtheabbknflmnfaaDoor
open Go.RowKit Go.Maps
attribute [local irreducible] shaL

abbrev PutS := UInt8 × UInt8 × ByteArray
/-- a list of puts, as it came in -/
def PutsAt (w : World) (v : Value) (L : List PutS) : Prop :=
  ∃ a cap, v = .slice a L.length cap ∧ ∀ i (h : i < L.length), ∃ g o, a = some ⟨g, o, none⟩ ∧ w.cell? ⟨g, o + i * 3, none⟩ = some (.int .u8 (UInt8.toNat L[i].1)) ∧ w.cell? ⟨g, o + i * 3 + 1, none⟩ = some (.int .u8 (UInt8.toNat L[i].2.1)) ∧ w.cell? ⟨g, o + i * 3 + 2, none⟩ = some (.string L[i].2.2)
def cut20 (s : ByteArray) : ByteArray := s.extract 0 (min s.size 20)
theorem cut20_size (s : ByteArray) : (cut20 s).size ≤ 20 := by
  unfold cut20
  rw [ByteArray.size_extract]
  omega
theorem cut20_eq (s : ByteArray) : s.extract 0 (min (s.size : Int) 20).toNat = cut20 s := by
  unfold cut20
  congr 1
  omega
/-- the pairs that they make -/
def bothM (L : List PutS) : List PairS := L.foldl (fun M p => setM M (keyS14 p.1 p.2.1, cut20 p.2.2)) []
theorem bothM_snoc (L : List PutS) (p : PutS) : bothM (L ++ [p]) = setM (bothM L) (keyS14 p.1 p.2.1, cut20 p.2.2) := by
  unfold bothM
  rw [List.foldl_append]
  rfl
theorem setM_len (M : List PairS) (x : PairS) : (setM M x).length ≤ M.length + 1 := by
  unfold setM
  rw [List.length_append, List.length_singleton]
  have := List.length_filter_le (fun p : PairS => !decide (p.1 = x.1)) M
  omega
theorem setM_all {M : List PairS} {x : PairS} {P : PairS → Prop} (h : ∀ y ∈ M, P y) (hx : P x) : ∀ y ∈ setM M x, P y := by
  intro y hy
  rcases List.mem_append.1 hy with hy | hy
  · exact h y (List.mem_filter.1 hy).1
  · rw [List.mem_singleton.1 hy]; exact hx
theorem bothM_all : ∀ (L : List PutS) (M : List PairS), (∀ x ∈ M, x.1.size = 16 ∧ x.2.size ≤ 20) → (∀ x ∈ L.foldl (fun M p => setM M (keyS14 p.1 p.2.1, cut20 p.2.2)) M, x.1.size = 16 ∧ x.2.size ≤ 20) ∧ (L.foldl (fun M p => setM M (keyS14 p.1 p.2.1, cut20 p.2.2)) M).length ≤ M.length + L.length
  | [], M, h => ⟨h, by simp⟩
  | p :: r, M, h => by
    have h1 := bothM_all r (setM M (keyS14 p.1 p.2.1, cut20 p.2.2)) (setM_all h ⟨keyS14_size _ _, cut20_size _⟩)
    refine ⟨h1.1, Nat.le_trans h1.2 ?_⟩
    have := setM_len M (keyS14 p.1 p.2.1, cut20 p.2.2)
    simp only [List.length_cons]
    omega
theorem bothM_ok (L : List PutS) (hL : L.length ≤ 12) : (∀ x ∈ bothM L, x.1.size = 16 ∧ x.2.size ≤ 20) ∧ (bothM L).length ≤ 12 := by
  have h := bothM_all L [] (fun x hx => by cases hx)
  refine ⟨h.1, ?_⟩
  have := h.2
  simp only [List.length_nil] at this
  unfold bothM
  omega
theorem plain_of {M : List PairS} (h : ∀ x ∈ M, x.1.size = 16 ∧ x.2.size ≤ 20) (hl : M.length ≤ 12) : Plain M := ⟨fun x hx => (h x hx).1, fun x hx => by have := (h x hx).2; omega, by omega⟩
def ownL (v : Value) : List Nat := v.ownBlock.toList
theorem ownL_mem {v : Value} {x : Nat} : x ∈ ownL v ↔ v.ownBlock = some x := by unfold ownL; simp
theorem puts_ck {w w' : World} {g : Nat} {i j : Nat} {x y : Value} (k : w.grownBy w' none) (h : w.cell? ⟨g, i, none⟩ = some x ∧ w.cell? ⟨g, j, none⟩ = some y) : w'.cell? ⟨g, i, none⟩ = some x ∧ w'.cell? ⟨g, j, none⟩ = some y := ⟨k.cell h.1 (by simp), k.cell h.2 (by simp)⟩
theorem own_keep2' {w w' : World} {B n s : Nat} {t : TypeId} {v : Value} {xs : List Value} (h : w.ownsRow B t s v n xs) (k : w.grownBy w' none) : w'.ownsRow B t s v n xs := by
  refine ⟨h.1, ?_⟩
  rcases h.2 with h' | ⟨g, cap, cur, rfl, hB, hg, r⟩
  · exact .inl h'
  · exact .inr ⟨g, cap, cur, rfl, hB, (k.block g (Array.getElem?_eq_some_iff.1 hg).1 (by simp)).trans hg, r⟩
set_option maxRecDepth 100000 in
set_option maxHeartbeats 6400000 in
theorem both_any (w : World) (a : Option Addr) (n c : Nat) (L : List PutS) (hv : PutsAt w (.slice a n c) L) (hsz : ∀ p ∈ L, p.2.2.size ≤ maxLen) (hn : n ≤ maxLen) :
    Calls Tryd.prog 23 #[.slice a n c] w fun e w' => ∃ mv tb, e = .returned (.tuple #[mv, .pointer (some ⟨tb, 0, none⟩)]) ∧ PairsAt w' mv (bothM (L.take 12)) ∧ TreeK w.heap.size (ownL mv) w' tb (bothM (L.take 12)) ∧ w.grownBy w' none := by
  have hln : L.length = n := by obtain ⟨_, _, e, _⟩ := hv; injection e with _ e _; exact e.symm
  have HV := Lib.hid (And.intro hv hsz)
  have HLN := Lib.hid hln
  have HNEW := Lib.hid (tnew_any w.heap.size [] w (by simp) (Nat.le_refl _))
  unfold maxLen at hn
  clear hv hsz hln
  go_enter Tryd.func23, Tryd.ntmps23
  go_wp2_with fail
  refine HNEW.out.mono ?_
  rintro e w1 ⟨rfl, hT1, g1⟩
  obtain ⟨TB, hTB⟩ : ∃ TB, w.heap.size = TB := ⟨_, rfl⟩
  have HTB := Lib.hid hTB
  rw [hTB] at hT1 ⊢
  have HT1 := Lib.hid hT1
  have HG1 := Lib.hid g1
  clear hT1 g1 HNEW hTB
  go_wp2_with fail
  go_loopw [4, 6] (fun mv iv wr => ∃ (i : Nat) (v : Value), i ≤ 12 ∧ iv = .int .i64 i ∧ v = mv ∧ Hid (i ≤ n) ∧ Hid (wr.ownsRow TB 33 2 v (bothM (L.take i)).length (pv (bothM (L.take i)))) ∧ Hid (TreeK TB (ownL v) wr TB (bothM (L.take i))) ∧ Hid (w.grownBy wr none)) (fun _ iv _ => 12 - (intOf iv).toNat)
  case atStart => exact ⟨0, _, Nat.zero_le _, rfl, rfl, Nat.zero_le _, World.ownsRow_nil _ _ _ _, by show TreeK _ _ _ _ _; exact HT1.out, HG1.out⟩
  case round =>
    obtain ⟨i, v, hi, rfl, rfl, HIN, HO, HT, HG⟩ := hrel
    by_cases hlm : i < n ∧ i < 12
    · obtain ⟨hm1, hm2⟩ := hlm
      have q1 : (i : Int) < (n : Int) := by omega
      have q2 : (i : Int) < 12 := by omega
      have q0 : (0 : Int) ≤ (i : Int) := by omega
      have hil : i < L.length := by have := HLN.out; omega
      obtain ⟨a', cap', e, hc⟩ := HV.out.1
      obtain ⟨g, o, rfl, h1, h2, h3⟩ := hc i hil
      have hs3 := HV.out.2 L[i] (List.getElem_mem _)
      have hsn : bothM (L.take (i + 1)) = setM (bothM (L.take i)) (keyS14 L[i].1 L[i].2.1, cut20 L[i].2.2) := by rw [List.take_succ_eq_append_getElem hil]; exact bothM_snoc _ _
      obtain ⟨p, hp⟩ : ∃ p, L[i] = p := ⟨_, rfl⟩
      obtain ⟨pa, pb, px⟩ := p
      rw [hp] at h1 h2 h3 hs3 hsn
      unfold maxLen at hs3
      injection e with e1 e2 e3
      have hgl : g < w.heap.size := cell_lt h1
      have HGL := Lib.hid hgl
      have HP12 := Lib.hid (And.intro h1 (And.intro h2 h3))
      have c3 := HG.out.cell h3 (by simp)
      have HSN := Lib.hid hsn
      have hok := bothM_ok (L.take i) (by have := List.length_take_le i L; omega)
      have HOK := Lib.hid hok
      simp only [e1] at *
      clear hc h1 h2 h3 hp hsn hgl hok e1 e2 e3
      go_upto_region 6 with (fail)
      go_cut [7] (fun sv wy => sv = .string (cut20 px) ∧ Hid (wr.grownBy wy none))
      case first =>
        have HCU := Lib.hid (cut20_eq px)
        have hz1 : (0 : Int) ≤ min (px.size : Int) 20 := by omega
        have hz2 : min (px.size : Int) 20 ≤ (px.size : Int) := by omega
        go_region
        all_goals
          go_wp2_with fail
          go_meet
          case rel => exact ⟨by rw [← HCU.out], grownBy_drewN (World.grownBy.refl _ _) 1⟩
      case rest =>
        obtain ⟨rfl, HGX⟩ := hcut
        have c1 := HGX.out.cell (HG.out.cell HP12.out.1 (by simp)) (by simp)
        have c2 := HGX.out.cell (HG.out.cell HP12.out.2.1 (by simp)) (by simp)
        have HGW := Lib.hid (grownBy_trans HG.out HGX.out)
        have hOwn := own_keep2' HO.out HGX.out
        have HOW := Lib.hid hOwn
        have HTW := Lib.hid (HT.out.grown HGX.out)
        have HKEY := Lib.hid (fun (w' : World) => key14_any pa pb w')
        have HS0 := Lib.hid (And.intro c1 c2)
        have hpa := pa.toNat_lt
        obtain ⟨M, hM⟩ : ∃ M, bothM (L.take i) = M := ⟨_, rfl⟩
        rw [hM] at HOK HTW HOW HSN
        have HM := Lib.hid hM
        have hXl : ∀ x ∈ ownL v, x < wc.heap.size := fun x hx => (hOwn.lt x (ownL_mem.1 hx)).2
        have HPUT : Hid (∀ w', wc.grownBy w' none → Calls Tryd.prog 10 #[.pointer (some ⟨TB, 0, none⟩), .string (keyS14 pa pb), .string (cut20 px)] w' fun e w'' => e = .returned (.int .i64 0) ∧ TreeK TB (ownL v) w'' TB (setM M (keyS14 pa pb, cut20 px)) ∧ Turn (rest TB (ownL v)) w' w'') := Lib.hid (fun w' q =>
          tput_any TB (ownL v) w' TB M (keyS14 pa pb) (cut20 px) (HTW.out.grown q) (fun x hx => Nat.lt_of_lt_of_le (hXl x hx) q.size) (by have := HTB.out; have := HGW.out.size; have := q.size; omega) (keyS14_size _ _) (by have := cut20_size px; omega) (by have := HOK.out.2; omega))
        clear hOwn hM hXl HT HO HG HGX
        generalize keyS14 pa pb = KK at HKEY HPUT HSN ⊢
        generalize cut20 px = VV at HPUT HSN ⊢
        have HKC := Lib.hid (fun (w' : World) (q : wc.grownBy w' none) => puts_ck q HS0.out)
        have HPC : Hid (∀ w4 w5 : World, wc.grownBy w4 none → Turn (rest TB (ownL v)) w4 w5 → w5.cell? ⟨g, o + i * 3, none⟩ = some (.int .u8 (pa.toNat : Int)) ∧ w5.cell? ⟨g, o + i * 3 + 1, none⟩ = some (.int .u8 (pb.toNat : Int))) := Lib.hid (fun w4 w5 q t => by
          have h4 := HKC.out w4 q
          have hg4 : g < w4.heap.size := cell_lt h4.1
          have hn : ¬ rest TB (ownL v) g := fun r => by have := r.1; have := HTB.out; have := HGL.out; omega
          exact ⟨(t.cell hg4 hn _).trans h4.1, (t.cell hg4 hn _).trans h4.2⟩)
        clear hpa c3
        go_wp2_with fail
        go_region_held3 (fun w' => w'.cell? ⟨g, o + i * 3, none⟩ = some (.int .u8 (pa.toNat : Int)) ∧ w'.cell? ⟨g, o + i * 3 + 1, none⟩ = some (.int .u8 (pb.toNat : Int))) (first | exact HPC.out _ _ ckp.2.2 ckp.2.1 | exact HKC.out _ ck | exact HS0.out)
          (first
          | (go_at_call 24; (with_reducible refine (HKEY.out _).mono ?_); rintro e w4 ⟨rfl, g4⟩; have ck := grownBy_trans (grownBy_drew (World.grownBy.refl wc none)) g4)
          | (go_at_call 10; (with_reducible refine (HPUT.out _ ck).mono ?_); rintro e w5 ⟨rfl, hT5, t5⟩; have ckp := And.intro hT5 (And.intro t5 ck)))
        have HS5 := Lib.hid (HPC.out _ _ ckp.2.2 ckp.2.1)
        have hT5 := ckp.1
        have t5 := ckp.2.1
        have hO5 : w5.ownsRow TB 33 2 v M.length (pv M) := own_turn (own_keep2' HOW.out ckp.2.2) t5 (fun x e q => q.2 (ownL_mem.2 e))
        have HT5 := Lib.hid hT5
        have hb4 := below_grownBy (grownBy_trans HGW.out ckp.2.2)
        rw [HTB.out] at hb4
        have HG5 : Hid (w.grownBy w5 none) := by
          have h6 := t5.bel hb4 (by have := hb4.size; rw [HTB.out] at this; exact this)
          rw [← HTB.out] at h6
          exact Lib.hid (grownBy_below h6)
        have HPA5 := Lib.hid (pairs_own hO5)
        have HSET := Lib.hid (fun (w' : World) (q : w5.grownBy w' none) => refSet_any w' v M (KK, VV) (HPA5.out.grown q) (by have := HOK.out.2; omega))
        have HKC5 := Lib.hid (fun (w' : World) (q : w5.grownBy w' none) => puts_ck q HS5.out)
        have d1 := HS5.out.1
        have d2 := HS5.out.2
        clear c1 c2 ck ckp hT5 t5 hO5 hb4 HPUT HPC HKC HS0 HOW HTW
        go_wp2_with fail
        go_region_held3 (fun w' => w'.cell? ⟨g, o + i * 3, none⟩ = some (.int .u8 (pa.toNat : Int)) ∧ w'.cell? ⟨g, o + i * 3 + 1, none⟩ = some (.int .u8 (pb.toNat : Int))) (first | exact HKC5.out _ (grownBy_trans ckq.2.2 ckq.2.1) | exact HKC5.out _ ck | exact HS5.out)
          (first
          | (go_at_call 24; (with_reducible refine (HKEY.out _).mono ?_); rintro e w6 ⟨rfl, g6⟩; have ck := grownBy_trans (grownBy_drew (World.grownBy.refl w5 none)) g6)
          | (go_at_call 12; (with_reducible refine (HSET.out _ ck).mono ?_); rintro e w7 ⟨v2, rfl, ho7, g7⟩; have ckq := And.intro ho7 (And.intro g7 ck)))
        have HO7 := Lib.hid ckq.1
        have hg57 := grownBy_trans ckq.2.2 ckq.2.1
        have hsz6 : w5.heap.size ≤ w6.heap.size := ckq.2.2.size
        have HT7 : Hid (TreeK TB (ownL v2) w7 TB (setM M (KK, VV))) := Lib.hid (HT5.out.more hg57 (fun x hx => .inr (by have := (ckq.1.lt x (ownL_mem.1 hx)).1; omega)))
        have HG7 := Lib.hid (grownBy_trans HG5.out hg57)
        have HTB6 : Hid (TB ≤ w6.heap.size) := Lib.hid (by have := HG5.out.size; have := HTB.out; omega)
        clear ck ckq hg57 hsz6 d1 d2
        go_wp2_with fail
        go_roundw
        case rel =>
          refine ⟨i + 1, v2, by omega, by go_num, rfl, by show _ ≤ _; omega, ?_, ?_, HG7.out⟩
          · rw [HSN.out]; show World.ownsRow _ _ _ _ _ _ _; exact own_low2 HO7.out HTB6.out
          · rw [HSN.out]; exact HT7.out
        case measure => simp [intOf]; omega
    · have hM12 : bothM (L.take i) = bothM (L.take 12) := by
        congr 1
        by_cases hin : i < n
        · rw [show i = 12 by omega]
        · have h1 := HLN.out
          have h2 := HIN.out
          rw [List.take_of_length_le (by omega), List.take_of_length_le (by omega)]
      rw [hM12] at HO HT
      have HFIN := Lib.hid (And.intro (pairs_own HO.out) HT.out)
      have HTB2 := HTB
      have hrest : (n : Int) ≤ (i : Int) ∨ ((i : Int) < (n : Int) ∧ (12 : Int) ≤ (i : Int)) := by omega
      clear hM12 HO HT
      rcases hrest with hh | ⟨h1, h2⟩
      · have q1 : ¬ (i : Int) < (n : Int) := by omega
        clear hh
        go_wp2_with fail
        go_returns
        exact ⟨v, TB, rfl, HFIN.out.1, by rw [HTB.out]; exact HFIN.out.2, HG.out⟩
      · have q2 : ¬ (i : Int) < 12 := by omega
        clear h2
        go_wp2_with fail
        go_returns
        exact ⟨v, TB, rfl, HFIN.out.1, by rw [HTB.out]; exact HFIN.out.2, HG.out⟩
end Go.Proofs.YtheabbknflmnfaaDoor

namespace Go.Proofs.YtheabbknflmnfaaDoor
open Go.RowKit Go.ChangeShapes Go.WideShapes Go.Deep

section
variable {H : Type} {enc : TypeId × Value → H} {P : Program} {w : World} {base : Nat} {spare : Nat → Bool} {held : Bool}
theorem open_slice_fields {t e : TypeId} {fs : Array Field} {fuel : Nat} {cs : List Value} {x : DataW H × List MemPlace} (ht : P.underlying t = some (.slice e)) (he : P.underlying e = some (.struct fs))
    (hone : oneCellFields P fs = true) (hC : P.cellsOf e = fs.size) (h : DataW.trod enc P w base spare held fuel t cs = some x) :
    (cs = [.slice none 0 0]) ∨
    ∃ (a : Addr) (len cap m : Nat), cs = [.slice (some a) len cap] ∧ len ≤ cap ∧ cap ≤ maxLen ∧ len ≤ m ∧
      ∀ i, i < m → ∃ n : Nat, ∀ (j : Nat) (f : Field), fs[j]? = some f → ∃ (v : Value) (y : DataW H × List MemPlace), w.cell? (a.add (i * fs.size + j)) = some v ∧ DataW.trod enc P w base spare held n f.type [v] = some y := by
  rcases open_slice ht h with h0 | ⟨a, len, cap, m, n, D, Pl, hcs, hb, hl, hm, hmm, hx, hi⟩
  · exact .inl h0.1
  · refine .inr ⟨a, len, cap, m, hcs, hl, hm, by rw [hmm]; split <;> omega, fun i him => ?_⟩
    obtain ⟨cs', hc, ht'⟩ := hi i him
    rw [hC] at hc
    obtain ⟨ys, n', hn', hy, hlen, hyl, hf⟩ := DataW.trod_struct he ht'
    obtain ⟨_, hcl, hat⟩ := World.cells?_some hc
    refine ⟨n', fun j f hj => ?_⟩
    obtain ⟨ho, hk⟩ := hone_of hone j f hj
    have hjl : j < fs.size := (Array.getElem?_eq_some_iff.1 hj).1
    have hcell := hat j hjl
    have hv : cs'[j]? = some (cs'[j]'(by omega)) := List.getElem?_eq_getElem (by omega)
    have h1 := hf j f hj
    rw [ho, hk] at h1
    have hone' : (cs'.drop j).take 1 = [cs'[j]'(by omega)] := by
      rw [List.drop_eq_getElem_cons (by omega)]
      rfl
    rw [hone'] at h1
    have hys : ys[j]? = some (ys[j]'(by omega)) := List.getElem?_eq_getElem (by omega)
    refine ⟨_, _, ?_, h1.trans hys⟩
    rw [← Go.Deep.add_add, hcell, hv]
end
theorem cellsPut : Tryd.prog.cellsOf 62 = 3 := by kernel_rfl
/-- a list of puts: nil, or cells -/
theorem open_puts {H : Type} {enc : TypeId × Value → H} {w : World} {base : Nat} {spare : Nat → Bool} {held : Bool} {a0 : Option Addr} {len cap : Nat} {d : DataW H} {p : List MemPlace}
    (h : DataW.Trod enc Tryd.prog w base spare held 47 (.slice a0 len cap) d p) : ∃ L : List PutS, PutsAt w (.slice a0 len cap) L ∧ (∀ x ∈ L, x.2.2.size ≤ maxLen) ∧ len ≤ maxLen := by
  obtain ⟨fuel, hf⟩ := h
  rcases open_slice_fields Tryd.underlying47 Tryd.underlying62 (by kernel_rfl) cellsPut hf with hcs | ⟨a, len', cap', m, hcs, hl, hm, hmm, hi⟩
  · have hv : Value.slice a0 len cap = .slice none 0 0 := by simpa [Value.cells] using hcs
    cases hv
    exact ⟨[], ⟨none, 0, rfl, fun i h => absurd h (by simp)⟩, by simp, by unfold maxLen; omega⟩
  · have hv : Value.slice a0 len cap = .slice (some a) len' cap' := by simpa [Value.cells] using hcs
    cases hv
    have each : ∀ i, ∃ x : PutS, i < len → ∃ g o, a = ⟨g, o, none⟩ ∧ w.cell? ⟨g, o + i * 3, none⟩ = some (.int .u8 (UInt8.toNat x.1)) ∧ w.cell? ⟨g, o + i * 3 + 1, none⟩ = some (.int .u8 (UInt8.toNat x.2.1)) ∧ w.cell? ⟨g, o + i * 3 + 2, none⟩ = some (.string x.2.2) ∧ x.2.2.size ≤ maxLen := by
      intro i
      by_cases hlt : i < len
      · obtain ⟨n, hj⟩ := hi i (by omega)
        obtain ⟨v0, y0, c0, t0⟩ := hj 0 _ rfl
        obtain ⟨v1, y1, c1, t1⟩ := hj 1 _ rfl
        obtain ⟨v2, y2, c2, t2⟩ := hj 2 _ rfl
        obtain ⟨x0, e0, f0, w0⟩ := DataW.trod_int Tryd.underlying5 t0
        obtain ⟨x1, e1, f1, w1⟩ := DataW.trod_int Tryd.underlying5 t1
        obtain ⟨x2, e2, f2, w2⟩ := DataW.trod_string Tryd.underlying9 t2
        simp only [List.cons.injEq, and_true] at e0 e1 e2
        subst e0 e1 e2
        obtain ⟨nz, hjz⟩ := hi 0 (by omega)
        obtain ⟨vz, yz, cz, _⟩ := hjz 0 _ rfl
        have hs := World.cell?_spot cz
        obtain ⟨g, o, sp⟩ := a
        have hsp : sp = none := by simpa [Addr.add] using hs
        subst hsp
        have b0 : 0 ≤ x0 ∧ x0 ≤ 255 := by simpa [Lit.wf, IntKind.min, IntKind.max, IntKind.signed, IntKind.bits] using w0
        have b1 : 0 ≤ x1 ∧ x1 ≤ 255 := by simpa [Lit.wf, IntKind.min, IntKind.max, IntKind.signed, IntKind.bits] using w1
        have u0 : ((UInt8.ofNat x0.toNat).toNat : Int) = x0 := by rw [UInt8.toNat_ofNat_of_lt' (show x0.toNat < 256 by omega)]; omega
        have u1 : ((UInt8.ofNat x1.toNat).toNat : Int) = x1 := by rw [UInt8.toNat_ofNat_of_lt' (show x1.toNat < 256 by omega)]; omega
        refine ⟨(UInt8.ofNat x0.toNat, UInt8.ofNat x1.toNat, x2), fun _ => ⟨g, o, rfl, ?_, ?_, ?_, ?_⟩⟩
        · have := cell_plain' c0
          rw [← Nat.add_assoc, Nat.add_zero] at this
          rw [u0]
          exact this
        · have := cell_plain' c1
          rw [← Nat.add_assoc] at this
          rw [u1]
          exact this
        · have := cell_plain' c2
          rw [← Nat.add_assoc] at this
          exact this
        · simpa using w2
      · exact ⟨(0, 0, ByteArray.empty), fun h => absurd h hlt⟩
    obtain ⟨L, hL⟩ := Classical.axiomOfChoice each
    have hlen : ((List.range len).map L).length = len := by simp
    refine ⟨(List.range len).map L, ⟨some a, cap, by rw [hlen], fun i hi => ?_⟩, ?_, by omega⟩
    · rw [hlen] at hi
      obtain ⟨g, o, rfl, h1, h2, h3, _⟩ := hL i hi
      refine ⟨g, o, rfl, ?_, ?_, ?_⟩ <;> rw [List.getElem_map, List.getElem_range] <;> assumption
    · intro x hx
      obtain ⟨i, hi, rfl⟩ := List.mem_map.1 hx
      obtain ⟨_, _, _, _, _, _, h4⟩ := hL i (List.mem_range.1 hi)
      exact h4
end Go.Proofs.YtheabbknflmnfaaDoor
