/- SectorPlays: the walk of its closure 'cut'. -/
import Derived.Test.YtfomchkmedoenaaSecPm
import Derived.Test.YtfomchkmedoenaaSecKp
import Derived.Deep.DeepCutAuto
import Derived.Deep.RegionHeld3
import Derived.Great.BuildSlice
namespace Go.Proofs.Ytfomchkmedoenaa
open Go.RowKit

/-- the numbers and the texts of what waits -/
def AtAt (w : World) (v : Value) (W : List (Nat × List UInt8)) : Prop := ∃ a c, v = .slice a W.length c ∧ ∀ k (h : k < W.length), ∃ g, a = some ⟨g, 0, none⟩ ∧ w.cell? ⟨g, k, none⟩ = some (.int .i64 (W[k].1 : Nat))
def TxAt (w : World) (v : Value) (W : List (Nat × List UInt8)) : Prop := ∃ a c, v = .slice a W.length c ∧ ∀ k (h : k < W.length), ∃ g, a = some ⟨g, 0, none⟩ ∧ w.cell? ⟨g, k, none⟩ = some (.string (str W[k].2))
theorem six {α : Type} {l : List α} (h : l.length = 6) : ∃ a b c d e f, l = [a, b, c, d, e, f] := by
  match l, h with
  | [a, b, c, d, e, f], _ => exact ⟨a, b, c, d, e, f, rfl⟩
/-- the six blocks -/
structure PlB where
  AB : Nat
  LB : Nat
  TB : Nat
  NB : Nat
  OB : Nat
  FB : Nat
def PlB.all (p : PlB) : List Nat := [p.AB, p.LB, p.TB, p.NB, p.OB, p.FB]
/-- what the six boxes hold -/
structure PlAt (w : World) (p : PlB) (av tv : Value) (now last : List ByteArray) (off : Bool) (fuse : Int) : Prop where
  a : w.heap[p.AB]? = some (.cells #[av] 30 (0, 0))
  t : w.heap[p.TB]? = some (.cells #[tv] 31 (0, 0))
  l : w.heap[p.LB]? = some (.cells (strV last).toArray 28 (0, 0))
  n : w.heap[p.NB]? = some (.cells (strV now).toArray 28 (0, 0))
  o : w.heap[p.OB]? = some (.cells #[.bool off] 4 (0, 0))
  f : w.heap[p.FB]? = some (.cells #[.int .i64 fuse] 3 (0, 0))
  nd : p.all.Nodup
  nl : now.length = 6
theorem six_nd {a b c d e f : Nat} (h : [a, b, c, d, e, f].Nodup) : (a ≠ b ∧ a ≠ c ∧ a ≠ d ∧ a ≠ e ∧ a ≠ f) ∧ (b ≠ c ∧ b ≠ d ∧ b ≠ e ∧ b ≠ f) ∧ (c ≠ d ∧ c ≠ e ∧ c ≠ f) ∧ (d ≠ e ∧ d ≠ f) ∧ e ≠ f := by
  simp only [List.nodup_cons, List.mem_cons, List.not_mem_nil, or_false, not_or, List.nodup_nil, and_true] at h
  obtain ⟨⟨h1, h2, h3, h4, h5⟩, ⟨h6, h7, h8, h9⟩, ⟨h10, h11, h12⟩, ⟨h13, h14⟩, h15, _⟩ := h
  exact ⟨⟨h1, h2, h3, h4, h5⟩, ⟨h6, h7, h8, h9⟩, ⟨h10, h11, h12⟩, ⟨h13, h14⟩, h15⟩
theorem turn_setRow {S : Nat → Prop} {w : World} {g : Nat} (h : S g) (cs : Array Value) : Turn S w (w.setRow g cs) :=
  ⟨rfl, rfl, rfl, by rw [size_setRow]; exact Nat.le_refl _, fun i _ hn => setRow_other w g i cs (fun e => hn (e ▸ h))⟩
set_option maxRecDepth 100000 in
set_option maxHeartbeats 3200000 in
theorem pcut_any (p : PlB) (av tv : Value) (now : List ByteArray) (off : Bool) (fuse : Int) (l : List (List UInt8)) (W : List (Nat × List UInt8)) (ka : Option Addr) (kn kc : Nat) (ks : List UInt8) (w : World)
    (hp : PlAt w p av tv now (lastL l) off fuse) (hl : l.length = 6) (hs : Secs l) (hW : Waits 6 W) (hWl : W.length ≤ 1000000) (ha : AtAt w av W) (ht : TxAt w tv W) (hk : BytesAt w (.slice ka kn kc) ks) (hkl : kn ≤ 140737488351232)
    (hna : ∀ g o c n, av = .slice (some ⟨g, o, none⟩) n c → g ≠ p.LB) (hnt : ∀ g o c n, tv = .slice (some ⟨g, o, none⟩) n c → g ≠ p.LB) (hnk : 0 < kn → ∀ g o, ka = some ⟨g, o, none⟩ → g ≠ p.LB) :
    Calls Try.prog 7 #[.slice ka kn kc, .pointer (some ⟨p.AB, 0, none⟩), .pointer (some ⟨p.LB, 0, none⟩), .pointer (some ⟨p.TB, 0, none⟩), .pointer (some ⟨p.NB, 0, none⟩), .pointer (some ⟨p.OB, 0, none⟩), .pointer (some ⟨p.FB, 0, none⟩)] w
      fun e w' => e = .returned (.tuple #[]) ∧ PlAt w' p (.slice none 0 0) (.slice none 0 0) (lastL (cutL l W ks)) (lastL (cutL l W ks)) true (-1) ∧ Turn (fun i => i ∈ p.all) w w' := by
  obtain ⟨AB, LB, TB, NB, OB, FB⟩ := p
  obtain ⟨aa, ac, rfl, hac⟩ := ha
  obtain ⟨ta, tc, rfl, htc⟩ := ht
  obtain ⟨ka', kc', hke, hkc⟩ := hk
  have hkn : kn = ks.length := by injection hke
  have hka : ka' = ka := by injection hke with h1 _ _; exact h1.symm
  subst hka
  have HP := Lib.hid hp
  have HA := Lib.hid (And.intro hac hna)
  have HT := Lib.hid (And.intro htc hnt)
  have HK := Lib.hid (And.intro hkc hnk)
  have HL := Lib.hid (And.intro hl (And.intro hs hW))
  have HKN := Lib.hid hkn
  obtain ⟨wn, hwn⟩ : ∃ wn, W.length = wn := ⟨_, rfl⟩
  have HWN := Lib.hid hwn
  rw [hwn] at hWl HP
  dsimp only [PlB.all]
  have c0 := cell_of HP.out.a 0
  have c1 := cell_of HP.out.t 0
  simp at c0 c1
  clear hp hac htc hke hkc hkn hl hs hW hna hnt hnk hwn
  go_enter Try.func7, Try.ntmps7
  go_wp2_with fail
  go_loopw [8] (fun iv wr => ∃ k : Nat, k ≤ wn ∧ k ≤ kn ∧ iv = .int .i64 k ∧ Hid (wr.heap[LB]? = some (.cells (strV (lastL (cutL l (W.take k) ks))).toArray 28 (0, 0)) ∧ Turn (fun i => i = LB) w wr)) (fun iv _ => wn - (intOf iv).toNat)
  case atStart => exact ⟨0, Nat.zero_le _, Nat.zero_le _, rfl, Lib.hid ⟨by rw [List.take_zero, cutL]; exact HP.out.l, Turn.refl _ _⟩⟩
  case round =>
    obtain ⟨k, hk1, hk2, rfl, HI⟩ := hrel
    have hND := six_nd HP.out.nd
    have hABL : AB ≠ LB := hND.1.1
    have hTBL : TB ≠ LB := hND.2.1.1.symm
    have HND := Lib.hid hND
    clear hND
    have c0 : wr.cell? ⟨AB, 0, none⟩ = _ := (HI.out.2.cell (Array.getElem?_eq_some_iff.1 HP.out.a).1 hABL 0).trans c0
    have c1 : wr.cell? ⟨TB, 0, none⟩ = _ := (HI.out.2.cell (Array.getElem?_eq_some_iff.1 HP.out.t).1 hTBL 0).trans c1
    have b0 : (0 : Int) ≤ (k : Int) := by omega
    by_cases hlt : k < wn ∧ k < kn
    · obtain ⟨h1, h2⟩ := hlt
      have b1 : (k : Int) < (wn : Int) := by omega
      have b2 : (k : Int) < (kn : Int) := by omega
      have hw1 : k < W.length := by have := HWN.out; omega
      have hw2 : k < ks.length := by have := HKN.out; omega
      obtain ⟨ga, rfl, a1⟩ := HA.out.1 k hw1
      obtain ⟨gt, rfl, t1⟩ := HT.out.1 k hw1
      obtain ⟨gk, go, rfl, k1⟩ := HK.out.1 k hw2
      have a1 := (HI.out.2.cell (cell_lt a1) (HA.out.2 ga 0 _ _ rfl) k).trans a1
      have t1 := (HI.out.2.cell (cell_lt t1) (HT.out.2 gt 0 _ _ rfl) k).trans t1
      have k1 := (HI.out.2.cell (cell_lt k1) (HK.out.2 (by omega) gk go rfl) (go + k)).trans k1
      obtain ⟨old, ho1, ho2, ho3⟩ := cut_stepT l W ks k HL.out.1 HL.out.2.1 HL.out.2.2 hw1 hw2
      have hx := HL.out.2.2 _ (List.getElem_mem hw1)
      obtain ⟨q, hq⟩ : ∃ q, (W[k]).1 = q := ⟨_, rfl⟩
      obtain ⟨nw, hnw⟩ : ∃ nw, (W[k]).2 = nw := ⟨_, rfl⟩
      obtain ⟨kb, hkb⟩ : ∃ kb, (ks[k]).toNat = kb := ⟨_, rfl⟩
      rw [hq] at a1 ho1 ho3 hx
      rw [hnw] at t1 ho3 hx
      rw [hkb] at k1 ho3
      have hq6 : q < 6 := hx.1
      have b3 : (0 : Int) ≤ (q : Int) := by omega
      have b4 : (q : Int) < 6 := by omega
      have hto : tornT (str old) (str nw) kb = str (tornL old nw (min kb 64)) := (torn_str old nw kb hx.2 ho2).symm
      have hkb2 : kb < 256 := by rw [← hkb]; exact UInt8.toNat_lt _
      have wk : IntKind.i64.wrap (kb : Int) = (kb : Int) := IntWalk.i64_in _ (by omega)
      have HTO := Lib.hid (fun w' => torn_any (str old) (str nw) (by rw [str_size]; exact ho2) (by rw [str_size]; exact hx.2) kb w')
      rw [hto] at HTO
      generalize str (tornL old nw (min kb 64)) = TT at HTO ho3
      generalize str old = OO at HTO ho1
      generalize str nw = NN at HTO t1
      obtain ⟨CL, hCL⟩ : ∃ CL, lastL (cutL l (W.take k) ks) = CL := ⟨_, rfl⟩
      rw [hCL] at ho1 ho3
      have hlb := HI.out.1
      rw [hCL] at hlb
      have l1 : wr.cell? ⟨LB, q, none⟩ = some (.string OO) := by
        rw [cell_of hlb, List.getElem?_toArray]
        unfold strV
        rw [List.getElem?_map, ho1]
        rfl
      have HO3 := Lib.hid ho3
      have HLB := Lib.hid hlb
      have hfr : ∀ j, wr.frozen? ⟨LB, j, none⟩ = false := fun j => free_of hlb j
      clear ho1 ho2 ho3 hx hq hnw hkb hto hCL hlb
      go_upto_region 3 with fail
      have HCK : Hid (wr.cell? ⟨AB, 0, none⟩ = some (.slice (some ⟨ga, 0, none⟩) wn ac) ∧ wr.cell? ⟨TB, 0, none⟩ = some (.slice (some ⟨gt, 0, none⟩) wn tc) ∧ wr.cell? ⟨ga, k, none⟩ = some (.int .i64 (q : Nat)) ∧ wr.cell? ⟨gt, k, none⟩ = some (.string NN) ∧ wr.cell? ⟨gk, go + k, none⟩ = some (.int .u8 (kb : Nat))) := Lib.hid ⟨c0, c1, a1, t1, k1⟩
      have gk0 : wr.grownBy wr.drew none := grownBy_drew (World.grownBy.refl _ _)
      have HCG : Hid (∀ w', wr.grownBy w' none → w'.cell? ⟨AB, 0, none⟩ = some (.slice (some ⟨ga, 0, none⟩) wn ac) ∧ w'.cell? ⟨TB, 0, none⟩ = some (.slice (some ⟨gt, 0, none⟩) wn tc) ∧ w'.cell? ⟨ga, k, none⟩ = some (.int .i64 (q : Nat)) ∧ w'.cell? ⟨gt, k, none⟩ = some (.string NN) ∧ w'.cell? ⟨gk, go + k, none⟩ = some (.int .u8 (kb : Nat))) := Lib.hid (fun w' g => ⟨g.cell HCK.out.1 (by simp), g.cell HCK.out.2.1 (by simp), g.cell HCK.out.2.2.1 (by simp), g.cell HCK.out.2.2.2.1 (by simp), g.cell HCK.out.2.2.2.2 (by simp)⟩)
      have HNE := Lib.hid (And.intro hABL (And.intro hTBL (And.intro (HA.out.2 ga 0 _ _ rfl) (And.intro (HT.out.2 gt 0 _ _ rfl) (HK.out.2 (by omega) gk go rfl)))))
      have HST : Hid (∀ w' : World, (w'.cell? ⟨AB, 0, none⟩ = some (.slice (some ⟨ga, 0, none⟩) wn ac) ∧ w'.cell? ⟨TB, 0, none⟩ = some (.slice (some ⟨gt, 0, none⟩) wn tc) ∧ w'.cell? ⟨ga, k, none⟩ = some (.int .i64 (q : Nat)) ∧ w'.cell? ⟨gt, k, none⟩ = some (.string NN) ∧ w'.cell? ⟨gk, go + k, none⟩ = some (.int .u8 (kb : Nat))) → ((w'.setCell ⟨LB, q, none⟩ (.string TT)).cell? ⟨AB, 0, none⟩ = some (.slice (some ⟨ga, 0, none⟩) wn ac) ∧ (w'.setCell ⟨LB, q, none⟩ (.string TT)).cell? ⟨TB, 0, none⟩ = some (.slice (some ⟨gt, 0, none⟩) wn tc) ∧ (w'.setCell ⟨LB, q, none⟩ (.string TT)).cell? ⟨ga, k, none⟩ = some (.int .i64 (q : Nat)) ∧ (w'.setCell ⟨LB, q, none⟩ (.string TT)).cell? ⟨gt, k, none⟩ = some (.string NN) ∧ (w'.setCell ⟨LB, q, none⟩ (.string TT)).cell? ⟨gk, go + k, none⟩ = some (.int .u8 (kb : Nat)))) := Lib.hid (fun w' h => by
        have t : Turn (fun i => i = LB) w' (w'.setCell ⟨LB, q, none⟩ (.string TT)) := (Turn.refl (fun i => i = LB) w').setCell (fun _ => rfl) _ _
        exact ⟨(t.cell (cell_lt h.1) HNE.out.1 _).trans h.1, (t.cell (cell_lt h.2.1) HNE.out.2.1 _).trans h.2.1, (t.cell (cell_lt h.2.2.1) HNE.out.2.2.1 _).trans h.2.2.1, (t.cell (cell_lt h.2.2.2.1) HNE.out.2.2.2.1 _).trans h.2.2.2.1, (t.cell (cell_lt h.2.2.2.2) HNE.out.2.2.2.2 _).trans h.2.2.2.2⟩)
      have HFI : Hid (∀ w', wr.grownBy w' none → Hid ((w'.setCell ⟨LB, q, none⟩ (.string TT)).heap[LB]? = some (.cells (strV (lastL (cutL l (W.take (k + 1)) ks))).toArray 28 (0, 0)) ∧ Turn (fun i => i = LB) w (w'.setCell ⟨LB, q, none⟩ (.string TT)))) := Lib.hid (fun w' g => Lib.hid ⟨by
        rw [HO3.out]
        have := heap_setCell (g.heap HLB.out (by simp)) q (.string TT)
        rw [strV_set] at this
        exact this, ((HI.out.2.grown g).setCell (fun _ => rfl) _ _)⟩)
      have ck := HCK.out
      refine wp_region_held_drew (S := (fun w' => w'.cell? ⟨AB, 0, none⟩ = some (.slice (some ⟨ga, 0, none⟩) wn ac) ∧ w'.cell? ⟨TB, 0, none⟩ = some (.slice (some ⟨gt, 0, none⟩) wn tc) ∧ w'.cell? ⟨ga, k, none⟩ = some (.int .i64 (q : Nat)) ∧ w'.cell? ⟨gt, k, none⟩ = some (.string NN) ∧ w'.cell? ⟨gk, go + k, none⟩ = some (.int .u8 (kb : Nat)))) (by kernel_rfl) ?hspc (fun hHeld => ?rgpc)
      case hspc => exact HCK.out
      case rgpc =>
        refine wpAnyH_take (i := 0) (v := ?vpc_0) rfl (by kernel_rfl) (by kernel_rfl) (by kernel_rfl) (fun _ _ _ h => h) (Or.inl ⟨by kernel_rfl, ?hpc_0⟩) (by assumption) ?rpc_0
        case hpc_0 => (intro w0 hSw; (try dsimp only at hSw); go_simp; (try with_reducible rfl))
        try simp only [Act.put, List.setIfInBounds_toArray, List.set_cons_zero, List.set_cons_succ]
        refine wpAnyH_take (i := 1) (v := ?vpc_1) rfl (by kernel_rfl) (by kernel_rfl) (by kernel_rfl) (fun _ _ _ h => h) (Or.inl ⟨by kernel_rfl, ?hpc_1⟩) (by assumption) ?rpc_1
        case hpc_1 => (intro w0 hSw; (try dsimp only at hSw); go_simp; (try with_reducible rfl))
        try simp only [Act.put, List.setIfInBounds_toArray, List.set_cons_zero, List.set_cons_succ]
        refine wpAnyH_take (i := 2) (v := ?vpc_2) rfl (by kernel_rfl) (by kernel_rfl) (by kernel_rfl) (fun _ _ _ h => h) (Or.inl ⟨by kernel_rfl, ?hpc_2⟩) (by assumption) ?rpc_2
        case hpc_2 => (intro w0 hSw; (try dsimp only at hSw); go_simp; (try with_reducible rfl))
        try simp only [Act.put, List.setIfInBounds_toArray, List.set_cons_zero, List.set_cons_succ]
        refine wpAnyH_take (i := 3) (v := ?vpc_3) rfl (by kernel_rfl) (by kernel_rfl) (by kernel_rfl) (fun _ _ _ h => h) (Or.inl ⟨by kernel_rfl, ?hpc_3⟩) (by assumption) ?rpc_3
        case hpc_3 => (intro w0 hSw; (try dsimp only at hSw); go_simp; (try with_reducible rfl))
        try simp only [Act.put, List.setIfInBounds_toArray, List.set_cons_zero, List.set_cons_succ]
        refine wpAnyH_take (i := 4) (v := ?vpc_4) rfl (by kernel_rfl) (by kernel_rfl) (by kernel_rfl) (fun _ _ _ h => h) (Or.inl ⟨by kernel_rfl, ?hpc_4⟩) (by assumption) ?rpc_4
        case hpc_4 => (intro w0 hSw; (try dsimp only at hSw); go_simp; (try with_reducible rfl))
        try simp only [Act.put, List.setIfInBounds_toArray, List.set_cons_zero, List.set_cons_succ]
        refine wpAnyH_take (i := 5) (v := ?vpc_5) rfl (by kernel_rfl) (by kernel_rfl) (by kernel_rfl) (fun _ _ _ h => h) (Or.inl ⟨by kernel_rfl, ?hpc_5⟩) (by assumption) ?rpc_5
        case hpc_5 => (intro w0 hSw; (try dsimp only at hSw); go_simp; (try with_reducible rfl))
        try simp only [Act.put, List.setIfInBounds_toArray, List.set_cons_zero, List.set_cons_succ]
        refine wpAnyH_take (i := 6) (v := ?vpc_6) rfl (by kernel_rfl) (by kernel_rfl) (by kernel_rfl) (fun _ _ _ h => h) (Or.inl ⟨by kernel_rfl, ?hpc_6⟩) (by assumption) ?rpc_6
        case hpc_6 => (intro w0 hSw; (try dsimp only at hSw); go_simp; (try with_reducible rfl))
        try simp only [Act.put, List.setIfInBounds_toArray, List.set_cons_zero, List.set_cons_succ]
        refine wpAnyH_take (i := 7) (v := ?vpc_7) rfl (by kernel_rfl) (by kernel_rfl) (by kernel_rfl) (fun _ _ _ h => h) (Or.inl ⟨by kernel_rfl, ?hpc_7⟩) (by assumption) ?rpc_7
        case hpc_7 => (intro w0 hSw; (try dsimp only at hSw); go_simp; (try with_reducible rfl))
        try simp only [Act.put, List.setIfInBounds_toArray, List.set_cons_zero, List.set_cons_succ]
        refine wpAnyH_take (i := 8) (v := ?vpc_8) rfl (by kernel_rfl) (by kernel_rfl) (by kernel_rfl) (fun _ _ _ h => h) (Or.inl ⟨by kernel_rfl, ?hpc_8⟩) (by assumption) ?rpc_8
        case hpc_8 => (intro w0 hSw; (try dsimp only at hSw); go_simp; (try with_reducible rfl))
        try simp only [Act.put, List.setIfInBounds_toArray, List.set_cons_zero, List.set_cons_succ]
        refine wpAnyH_take (i := 10) (v := ?vpc_9) rfl (by kernel_rfl) (by kernel_rfl) (by kernel_rfl) (fun _ _ _ h => h) (Or.inl ⟨by kernel_rfl, ?hpc_9⟩) (by assumption) ?rpc_9
        case hpc_9 => (intro w0 hSw; (try dsimp only at hSw); go_simp; (try with_reducible rfl))
        try simp only [Act.put, List.setIfInBounds_toArray, List.set_cons_zero, List.set_cons_succ]
        refine wpAnyH_take (i := 11) (v := ?vpc_10) rfl (by kernel_rfl) (by kernel_rfl) (by kernel_rfl) (fun _ _ _ h => h) (Or.inl ⟨by kernel_rfl, ?hpc_10⟩) (by assumption) ?rpc_10
        case hpc_10 => (intro w0 hSw; (try dsimp only at hSw); go_simp; (try with_reducible rfl))
        try simp only [Act.put, List.setIfInBounds_toArray, List.set_cons_zero, List.set_cons_succ]
        refine wpAnyH_take (i := 12) (v := ?vpc_11) rfl (by kernel_rfl) (by kernel_rfl) (by kernel_rfl) (fun _ _ _ h => h) (Or.inl ⟨by kernel_rfl, ?hpc_11⟩) (by assumption) ?rpc_11
        case hpc_11 => (intro w0 hSw; (try dsimp only at hSw); go_simp; (try with_reducible rfl))
        try simp only [Act.put, List.setIfInBounds_toArray, List.set_cons_zero, List.set_cons_succ]
        refine wpAnyH_take (i := 13) (v := ?vpc_12) rfl (by kernel_rfl) (by kernel_rfl) (by kernel_rfl) (fun _ _ _ h => h) (Or.inl ⟨by kernel_rfl, ?hpc_12⟩) (by assumption) ?rpc_12
        case hpc_12 => (intro w0 hSw; (try dsimp only at hSw); go_simp; (try with_reducible rfl))
        try simp only [Act.put, List.setIfInBounds_toArray, List.set_cons_zero, List.set_cons_succ]
        refine wpAnyH_take (i := 14) (v := ?vpc_13) rfl (by kernel_rfl) (by kernel_rfl) (by kernel_rfl) (fun _ _ _ h => h) (Or.inl ⟨by kernel_rfl, ?hpc_13⟩) (by assumption) ?rpc_13
        case hpc_13 => (intro w0 hSw; (try dsimp only at hSw); go_simp; (try with_reducible rfl))
        try simp only [Act.put, List.setIfInBounds_toArray, List.set_cons_zero, List.set_cons_succ]
        refine wpAnyH_take (i := 15) (v := ?vpc_14) rfl (by kernel_rfl) (by kernel_rfl) (by kernel_rfl) (fun _ _ _ h => h) (Or.inl ⟨by kernel_rfl, ?hpc_14⟩) (by assumption) ?rpc_14
        case hpc_14 => (intro w0 hSw; (try dsimp only at hSw); go_simp; (try with_reducible rfl))
        try simp only [Act.put, List.setIfInBounds_toArray, List.set_cons_zero, List.set_cons_succ]
        refine wpAnyH_take (i := 16) (v := ?vpc_15) rfl (by kernel_rfl) (by kernel_rfl) (by kernel_rfl) (fun _ _ _ h => h) (Or.inl ⟨by kernel_rfl, ?hpc_15⟩) (by assumption) ?rpc_15
        case hpc_15 => (intro w0 hSw; (try dsimp only at hSw); go_simp; (try with_reducible rfl))
        try simp only [Act.put, List.setIfInBounds_toArray, List.set_cons_zero, List.set_cons_succ]
        refine wpAnyH_take (i := 17) (v := ?vpc_16) rfl (by kernel_rfl) (by kernel_rfl) (by kernel_rfl) (fun _ _ _ h => h) (Or.inl ⟨by kernel_rfl, ?hpc_16⟩) (by assumption) ?rpc_16
        case hpc_16 => (intro w0 hSw; (try dsimp only at hSw); go_simp; (try with_reducible rfl))
        try simp only [Act.put, List.setIfInBounds_toArray, List.set_cons_zero, List.set_cons_succ]
        refine wpAnyH_take (i := 18) (v := ?vpc_17) rfl (by kernel_rfl) (by kernel_rfl) (by kernel_rfl) (fun _ _ _ h => h) (Or.inl ⟨by kernel_rfl, ?hpc_17⟩) (by assumption) ?rpc_17
        case hpc_17 => (intro w0 hSw; (try dsimp only at hSw); go_simp; (try with_reducible rfl))
        try simp only [Act.put, List.setIfInBounds_toArray, List.set_cons_zero, List.set_cons_succ]
        refine wpAnyH_ready (rs := [9]) (by kernel_rfl) (by simp) ?_
        refine AllReadyH.cons rfl (fun K hK => ?apc_19) ?bpc_19
        case apc_19 =>
          (go_simp)
          refine hK.out _ _ ?spc_19 (fun hHeld => ?tpc_19)
          case spc_19 => exact ck
          case tpc_19 =>
            clear hK K
            try simp only [Act.put, List.setIfInBounds_toArray, List.set_cons_zero, List.set_cons_succ]
            refine wpAnyH_ready (rs := [19]) (by kernel_rfl) (by simp) ?_
            refine AllReadyH.cons rfl (fun K hK => ?apc_20) ?bpc_20
            case apc_20 =>
              (go_simp; go_at_call 8; (with_reducible refine (HTO.out _).mono ?_); rintro e w4 ⟨rfl, g4⟩; have gk := grownBy_trans gk0 g4; have ck := HCG.out _ gk; have l4 := gk.cell l1 (by simp); have hfr := fun j => free_of (gk.heap HLB.out (by simp)) j)
              refine hK.out _ _ ?spc_20 (fun hHeld => ?tpc_20)
              case spc_20 => exact ck
              case tpc_20 =>
                clear hK K
                try simp only [Act.put, List.setIfInBounds_toArray, List.set_cons_zero, List.set_cons_succ]
                refine wpAnyH_take (i := 20) (v := ?vpc_20) rfl (by kernel_rfl) (by kernel_rfl) (by kernel_rfl) (fun _ _ _ h => h) (Or.inl ⟨by kernel_rfl, ?hpc_20⟩) (by assumption) ?rpc_20
                case hpc_20 => (intro w0 hSw; (try dsimp only at hSw); go_simp; (try with_reducible rfl))
                try simp only [Act.put, List.setIfInBounds_toArray, List.set_cons_zero, List.set_cons_succ]
                refine wpAnyH_ready (rs := [21]) (by kernel_rfl) (by simp) ?_
                refine AllReadyH.cons rfl (fun K hK => ?apc_22) ?bpc_22
                case apc_22 =>
                  (go_simp; have ck := HST.out _ ck)
                  refine hK.out _ _ ?spc_22 (fun hHeld => ?tpc_22)
                  case spc_22 => exact ck
                  case tpc_22 =>
                    clear hK K
                    try simp only [Act.put, List.setIfInBounds_toArray, List.set_cons_zero, List.set_cons_succ]
                    refine wpAnyH_done (by kernel_rfl) ?_ _
                    try dsimp only
                    (have HF := Lib.hid gk; clear gk ck; go_wp2_with fail; go_roundw; (case rel => exact ⟨k + 1, by omega, by omega, by go_num, HFI.out _ HF.out⟩); (case measure => (simp [intOf]; omega)))
                case bpc_22 =>
                  exact AllReadyH.nil
            case bpc_20 =>
              exact AllReadyH.nil
        case bpc_19 =>
          exact AllReadyH.nil
    · have hfin : lastL (cutL l (W.take k) ks) = lastL (cutL l W ks) := by
        have h1 := HWN.out
        have h2 := HKN.out
        rw [show k = min ks.length W.length by omega, cutL_take]
      have hlb := HI.out.1
      rw [hfin] at hlb
      have hlen : (lastL (cutL l W ks)).length = 6 := by rw [lastL_len, cutL_length]; exact HL.out.1
      obtain ⟨s0, s1, s2, s3, s4, s5, hs6⟩ := six hlen
      rw [hs6] at hlb
      have HS6 := Lib.hid hs6
      have HLB := Lib.hid hlb
      have HTU := Lib.hid HI.out.2
      have hrest : wn ≤ k ∨ (k < wn ∧ kn ≤ k) := by omega
      clear hfin hlb hlen hs6
      have l0 : wr.cell? ⟨LB, 0, none⟩ = some (.string s0) := by rw [cell_of HLB.out]; rfl
      have l1 : wr.cell? ⟨LB, 1, none⟩ = some (.string s1) := by rw [cell_of HLB.out]; rfl
      have l2 : wr.cell? ⟨LB, 2, none⟩ = some (.string s2) := by rw [cell_of HLB.out]; rfl
      have l3 : wr.cell? ⟨LB, 3, none⟩ = some (.string s3) := by rw [cell_of HLB.out]; rfl
      have l4 : wr.cell? ⟨LB, 4, none⟩ = some (.string s4) := by rw [cell_of HLB.out]; rfl
      have l5 : wr.cell? ⟨LB, 5, none⟩ = some (.string s5) := by rw [cell_of HLB.out]; rfl
      obtain ⟨u0, u1, u2, u3, u4, u5, hu6⟩ := six HP.out.nl
      obtain ⟨⟨_, nAT, nAN, nAO, nAF⟩, ⟨nLT, nLN, nLO, nLF⟩, ⟨nTN, nTO, nTF⟩, ⟨nNO, nNF⟩, nOF⟩ := HND.out
      have kA := HTU.out.heap HP.out.a hABL
      have kT := HTU.out.heap HP.out.t hTBL
      have kN := HTU.out.heap HP.out.n nLN.symm
      have kO := HTU.out.heap HP.out.o nLO.symm
      have kF := HTU.out.heap HP.out.f nLF.symm
      rw [hu6] at kN
      have HKK := Lib.hid (And.intro kA (And.intro kT (And.intro kN (And.intro kO kF))))
      have HI6 : Hid ((Try.prog.info? 28).map (·.size) = some (#[Value.string s0, .string s1, .string s2, .string s3, .string s4, .string s5] : Array Value).size) := by show _ = _; kernel_rfl
      have HO6 : Hid ((#[Value.string s0, .string s1, .string s2, .string s3, .string s4, .string s5] : Array Value).all (·.oneCell') = true) := by show _ = _; simp [Value.oneCell']
      have HRA : Hid (wr.rangeAt LB 0 [.string s0, .string s1, .string s2, .string s3, .string s4, .string s5]) := by
        intro j v hv
        rw [cell_of HLB.out, List.getElem?_toArray, Nat.zero_add]
        exact hv
      have HI1 : Hid ((Try.prog.info? 30).map (·.size) = some 1 ∧ (Try.prog.info? 31).map (·.size) = some 1 ∧ (Try.prog.info? 4).map (·.size) = some 1 ∧ (Try.prog.info? 3).map (·.size) = some 1) := by show _ ∧ _; exact ⟨by kernel_rfl, by kernel_rfl, by kernel_rfl, by kernel_rfl⟩
      obtain ⟨W1, hW1⟩ : ∃ W1, wr.setRow NB #[Value.string s0, .string s1, .string s2, .string s3, .string s4, .string s5] = W1 := ⟨_, rfl⟩
      have a1 : W1.heap[AB]? = some (.cells #[.slice aa wn ac] 30 (0, 0)) := by rw [← hW1, setRow_other _ _ _ _ nAN]; exact kA
      have t1 : W1.heap[TB]? = some (.cells #[.slice ta wn tc] 31 (0, 0)) := by rw [← hW1, setRow_other _ _ _ _ nTN]; exact kT
      have o1 : W1.heap[OB]? = some (.cells #[.bool off] 4 (0, 0)) := by rw [← hW1, setRow_other _ _ _ _ nNO.symm]; exact kO
      have f1 : W1.heap[FB]? = some (.cells #[.int .i64 fuse] 3 (0, 0)) := by rw [← hW1, setRow_other _ _ _ _ nNF.symm]; exact kF
      obtain ⟨W2, hW2⟩ : ∃ W2, W1.setRow AB #[Value.slice none 0 0] = W2 := ⟨_, rfl⟩
      have t2 : W2.heap[TB]? = some (.cells #[.slice ta wn tc] 31 (0, 0)) := by rw [← hW2, setRow_other _ _ _ _ nAT.symm]; exact t1
      have o2 : W2.heap[OB]? = some (.cells #[.bool off] 4 (0, 0)) := by rw [← hW2, setRow_other _ _ _ _ nAO.symm]; exact o1
      have f2 : W2.heap[FB]? = some (.cells #[.int .i64 fuse] 3 (0, 0)) := by rw [← hW2, setRow_other _ _ _ _ nAF.symm]; exact f1
      obtain ⟨W3, hW3⟩ : ∃ W3, W2.setRow TB #[Value.slice none 0 0] = W3 := ⟨_, rfl⟩
      have o3 : W3.heap[OB]? = some (.cells #[.bool off] 4 (0, 0)) := by rw [← hW3, setRow_other _ _ _ _ nTO.symm]; exact o2
      have f3 : W3.heap[FB]? = some (.cells #[.int .i64 fuse] 3 (0, 0)) := by rw [← hW3, setRow_other _ _ _ _ nTF.symm]; exact f2
      obtain ⟨W4, hW4⟩ : ∃ W4, W3.setRow OB #[Value.bool true] = W4 := ⟨_, rfl⟩
      have f4 : W4.heap[FB]? = some (.cells #[.int .i64 fuse] 3 (0, 0)) := by rw [← hW4, setRow_other _ _ _ _ nOF.symm]; exact f3
      have HH := Lib.hid (And.intro kN (And.intro a1 (And.intro t2 (And.intro o3 f4))))
      have HWW := Lib.hid (And.intro hW1 (And.intro hW2 (And.intro hW3 hW4)))
      clear kA kT kN kO kF hu6 a1 t1 o1 f1 t2 o2 f2 o3 f3 f4 hW1 hW2 hW3 hW4
      have HEND : Hid ((Ending.returned (.tuple #[]) : Ending) = Ending.returned (.tuple #[]) ∧ PlAt (W4.setRow FB #[Value.int .i64 (-1)]) ⟨AB, LB, TB, NB, OB, FB⟩ (.slice none 0 0) (.slice none 0 0) (lastL (cutL l W ks)) (lastL (cutL l W ks)) true (-1) ∧ Turn (fun i => i = AB ∨ i = LB ∨ i = TB ∨ i = NB ∨ i = OB ∨ i = FB) w (W4.setRow FB #[Value.int .i64 (-1)])) := by
        obtain ⟨kN, a1, t2, o3, f4⟩ := HH.out
        obtain ⟨e1, e2, e3, e4⟩ := HWW.out
        have n1 := setRow_heap wr NB _ #[Value.string s0, .string s1, .string s2, .string s3, .string s4, .string s5] _ _ kN
        have L0 := HLB.out
        have lb1 := (setRow_other wr NB LB #[Value.string s0, .string s1, .string s2, .string s3, .string s4, .string s5] nLN).trans L0
        rw [e1] at n1 lb1
        have a2 := setRow_heap W1 AB _ #[Value.slice none 0 0] _ _ a1
        have n2 := (setRow_other W1 AB NB #[Value.slice none 0 0] nAN.symm).trans n1
        have lb2 := (setRow_other W1 AB LB #[Value.slice none 0 0] hABL.symm).trans lb1
        rw [e2] at a2 n2 lb2
        have t3 := setRow_heap W2 TB _ #[Value.slice none 0 0] _ _ t2
        have a3 := (setRow_other W2 TB AB #[Value.slice none 0 0] nAT).trans a2
        have n3 := (setRow_other W2 TB NB #[Value.slice none 0 0] nTN.symm).trans n2
        have lb3 := (setRow_other W2 TB LB #[Value.slice none 0 0] hTBL.symm).trans lb2
        rw [e3] at t3 a3 n3 lb3
        have o4 := setRow_heap W3 OB _ #[Value.bool true] _ _ o3
        have t4 := (setRow_other W3 OB TB #[Value.bool true] nTO).trans t3
        have a4 := (setRow_other W3 OB AB #[Value.bool true] nAO).trans a3
        have n4 := (setRow_other W3 OB NB #[Value.bool true] nNO).trans n3
        have lb4 := (setRow_other W3 OB LB #[Value.bool true] nLO).trans lb3
        rw [e4] at o4 t4 a4 n4 lb4
        have f5 := setRow_heap W4 FB _ #[Value.int .i64 (-1)] _ _ f4
        have o5 := (setRow_other W4 FB OB #[Value.int .i64 (-1)] nOF).trans o4
        have t5 := (setRow_other W4 FB TB #[Value.int .i64 (-1)] nTF).trans t4
        have a5 := (setRow_other W4 FB AB #[Value.int .i64 (-1)] nAF).trans a4
        have n5 := (setRow_other W4 FB NB #[Value.int .i64 (-1)] nNF).trans n4
        have lb5 := (setRow_other W4 FB LB #[Value.int .i64 (-1)] nLF).trans lb4
        refine Lib.hid ⟨rfl, ⟨a5, t5, ?_, ?_, o5, f5, HP.out.nd, by rw [HS6.out]; rfl⟩, ?_⟩
        · rw [HS6.out]; exact lb5
        · rw [HS6.out]; exact n5
        · refine (HTU.out.mono (fun i _ e => .inr (.inl e))).then ?_
          have u1 : Turn (fun i => i = AB ∨ i = LB ∨ i = TB ∨ i = NB ∨ i = OB ∨ i = FB) wr W1 := by rw [← e1]; exact turn_setRow (by simp) _
          have u2 : Turn (fun i => i = AB ∨ i = LB ∨ i = TB ∨ i = NB ∨ i = OB ∨ i = FB) W1 W2 := by rw [← e2]; exact turn_setRow (by simp) _
          have u3 : Turn (fun i => i = AB ∨ i = LB ∨ i = TB ∨ i = NB ∨ i = OB ∨ i = FB) W2 W3 := by rw [← e3]; exact turn_setRow (by simp) _
          have u4 : Turn (fun i => i = AB ∨ i = LB ∨ i = TB ∨ i = NB ∨ i = OB ∨ i = FB) W3 W4 := by rw [← e4]; exact turn_setRow (by simp) _
          exact (((u1.then u2).then u3).then u4).then (turn_setRow (by simp) _)
      clear HP HTU
      rcases hrest with hr1 | ⟨hr1, hr2⟩
      · have d1 : ¬ (k : Int) < (wn : Int) := by omega
        go_upto_region 4 with fail
        apply wp_region_lit
        refine wpList_load_mid rfl 28 (.tmp 2) rfl LB 0 rfl [.string s0, .string s1, .string s2, .string s3, .string s4, .string s5] _ HRA.out Try.underlying28 rfl HI6.out ?_
        refine wpList_store_rowTo rfl 28 (.tmp 4) (.tmp 42) rfl rfl NB #[.string s0, .string s1, .string s2, .string s3, .string s4, .string s5] rfl rfl _ _ HH.out.1 HI6.out rfl HO6.out ?_
        rw [HWW.out.1]
        refine wpList_store_oneTo rfl 30 (.tmp 1) _ rfl rfl AB (.slice none 0 0) rfl rfl rfl _ _ HH.out.2.1 HI1.out.1 ?_
        rw [HWW.out.2.1]
        refine wpList_store_oneTo rfl 31 (.tmp 3) _ rfl rfl TB (.slice none 0 0) rfl rfl rfl _ _ HH.out.2.2.1 HI1.out.2.1 ?_
        rw [HWW.out.2.2.1]
        refine wpList_store_oneTo rfl 4 (.tmp 5) _ rfl rfl OB (.bool true) rfl rfl rfl _ _ HH.out.2.2.2.1 HI1.out.2.2.1 ?_
        rw [HWW.out.2.2.2]
        refine wpList_store_oneTo rfl 3 (.tmp 6) _ rfl rfl FB (.int .i64 (-1)) rfl rfl rfl _ _ HH.out.2.2.2.2 HI1.out.2.2.2 ?_
        go_wp2_with fail
        go_end0
        exact ⟨rfl, HEND.out.2⟩
      · have d1 : (k : Int) < (wn : Int) := by omega
        have d2 : ¬ (k : Int) < (kn : Int) := by omega
        go_upto_region 4 with fail
        apply wp_region_lit
        refine wpList_load_mid rfl 28 (.tmp 2) rfl LB 0 rfl [.string s0, .string s1, .string s2, .string s3, .string s4, .string s5] _ HRA.out Try.underlying28 rfl HI6.out ?_
        refine wpList_store_rowTo rfl 28 (.tmp 4) (.tmp 42) rfl rfl NB #[.string s0, .string s1, .string s2, .string s3, .string s4, .string s5] rfl rfl _ _ HH.out.1 HI6.out rfl HO6.out ?_
        rw [HWW.out.1]
        refine wpList_store_oneTo rfl 30 (.tmp 1) _ rfl rfl AB (.slice none 0 0) rfl rfl rfl _ _ HH.out.2.1 HI1.out.1 ?_
        rw [HWW.out.2.1]
        refine wpList_store_oneTo rfl 31 (.tmp 3) _ rfl rfl TB (.slice none 0 0) rfl rfl rfl _ _ HH.out.2.2.1 HI1.out.2.1 ?_
        rw [HWW.out.2.2.1]
        refine wpList_store_oneTo rfl 4 (.tmp 5) _ rfl rfl OB (.bool true) rfl rfl rfl _ _ HH.out.2.2.2.1 HI1.out.2.2.1 ?_
        rw [HWW.out.2.2.2]
        refine wpList_store_oneTo rfl 3 (.tmp 6) _ rfl rfl FB (.int .i64 (-1)) rfl rfl rfl _ _ HH.out.2.2.2.2 HI1.out.2.2.2 ?_
        go_wp2_with fail
        go_end0
        exact ⟨rfl, HEND.out.2⟩
end Go.Proofs.Ytfomchkmedoenaa
