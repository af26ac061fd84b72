/- The walks of an entry's Next, and of History. · SHA-256 on great numbers, made for the kernel's own arithmetic; it is the digest on bytes. No walk of the program. · Digests of texts as great numbers. No walk of the program. · Texts out of rows of bytes. No walk. · Arguments opened: arrays of bytes, slices of integers. No walk. · A row's post, where the call has only made memory. No walk. -/
import Derived.Test.YtgaenpbdfelhhaaDoorEntryHistoriesB2
import Derived.KernelRfl
import Derived.Test.YtgaenpbdfelhhaaDoorEntryHistoriesB1
import Derived.Laws.IdiomStrings
import Derived.OpenShut
import Derived.WideKeyArr2
import Derived.ChangeSlices
import Derived.Test.YtgaenpbdfelhhaaDoorRows
import Derived.WalkKit
import Derived.ProofKit
import Derived.ShutString
namespace Go.Proofs.YtgaenpbdfelhhaaDoor
open Go.RowKit
attribute [local irreducible] shaL

theorem eq_strE (a b : ByteArray) : (a.toList == b.toList) = decide (a = b) := by
  rw [ByteArray.toList_eq, ByteArray.toList_eq, Bool.eq_iff_iff, beq_iff_eq, decide_eq_true_iff]
  exact ⟨fun h => ByteArray.ext (Array.toList_inj.1 h), fun h => by rw [h]⟩
theorem EntS.next_val {x y : EntS} (h : x.next y = 0) : y.v = x.v + 1 ∧ x.err = 0 ∧ y.p = x.value := by
  unfold EntS.next at h
  split at h
  · cases h
  · rename_i h1
    split at h
    · cases h
    · rename_i h2
      refine ⟨by omega, ?_, ?_⟩
      · exact Classical.byContradiction fun q => h2 (.inl q)
      · exact Classical.byContradiction fun q => h2 (.inr q)
set_option maxRecDepth 100000 in
set_option maxHeartbeats 1600000 in
theorem enext_any (x y : EntS) (hx : x.small) (hy : y.small) (w : World) (hr : ShaReady w) :
    Calls Tryd.prog 39 #[x.val, y.val] w fun e w' => e = .returned (.int .i64 (x.next y)) ∧ w.grownBy w' none := by
  have HV0 := Lib.hid (fun w' q => evalue_any x hx w' q)
  have hxv := hx.v
  have hyv := hy.v
  have HR := Lib.hid hr
  have HVS := Lib.hid (EntS.value_empty x)
  obtain ⟨V, hV⟩ : ∃ V, x.value = V := ⟨_, rfl⟩
  obtain ⟨er, her⟩ : ∃ er, x.err = er := ⟨_, rfl⟩
  obtain ⟨z, hz⟩ : ∃ z, x.next y = z := ⟨_, rfl⟩
  have hzz := hz
  unfold EntS.next at hzz
  rw [hV] at HV0 HVS hzz
  rw [her] at HVS hzz
  rw [hz]
  unfold EntS.val at HV0 ⊢
  obtain ⟨xv, xo, xr, xh, xp⟩ := x
  obtain ⟨yv, yo, yr, yh, yp⟩ := y
  simp only at HV0 hxv hyv hzz ⊢
  have hb0 := heap_alloc_at w (.cells #[.int .u64 xv, .string xo, .string xr, .int .i64 xh, .string xp] 52) _ rfl
  have hg0 : w.grownBy (w.alloc (.cells #[.int .u64 xv, .string xo, .string xr, .int .i64 xh, .string xp] 52)) none := World.grownBy_alloc _ _ _
  obtain ⟨W0, hW0⟩ : ∃ W0, w.alloc (.cells #[.int .u64 xv, .string xo, .string xr, .int .i64 xh, .string xp] 52) = W0 := ⟨_, rfl⟩
  rw [hW0] at hb0 hg0
  have hb1 := heap_alloc_at W0 (.cells #[.int .u64 yv, .string yo, .string yr, .int .i64 yh, .string yp] 52) _ rfl
  have hg1 : W0.grownBy (W0.alloc (.cells #[.int .u64 yv, .string yo, .string yr, .int .i64 yh, .string yp] 52)) none := World.grownBy_alloc _ _ _
  obtain ⟨W1, hW1⟩ : ∃ W1, W0.alloc (.cells #[.int .u64 yv, .string yo, .string yr, .int .i64 yh, .string yp] 52) = W1 := ⟨_, rfl⟩
  rw [hW1] at hb1 hg1
  have hc0 := hg1.heap hb0 (by simp)
  have hsz : W0.heap.size = w.heap.size + 1 := by rw [← hW0, World.size_alloc]
  rw [hsz] at hb1
  obtain ⟨x0, x1, x2, x3, x4⟩ := cells5 hc0
  obtain ⟨y0, y1, y2, y3, y4⟩ := cells5 hb1
  have HG1 := Lib.hid (grownBy_trans hg0 hg1)
  have HB1 := Lib.hid hb1
  have HW := Lib.hid (And.intro hW0 (And.intro hW1 hsz))
  clear hb0 hg0 hW0 hb1 hg1 hW1 hc0 hsz hx hy hr
  by_cases h0 : yv = 0
  · rw [if_pos (.inl h0)] at hzz
    subst hzz
    have q0 : ((yv : Int) == 0) = true := by simp [h0]
    have HZ0 := Lib.hid h0
    clear HV0 HVS x1 x2 x3 x4 h0
    go_enter Tryd.func39, Tryd.ntmps39
    go_wp2_with (rw [HW.out.1, HW.out.2.1])
    go_ret
    exact ⟨rfl, HG1.out⟩
  · have q0 : ((yv : Int) == 0) = false := beq_eq_false_iff_ne.2 (by omega)
    have q1 : IntKind.u64.wrap ((yv : Int) - 1) = (yv : Int) - 1 := IntWalk.u64_in _ (by omega)
    by_cases h1 : yv - 1 = xv
    · have q2 : ((yv : Int) - 1 != (xv : Int)) = false := by simp; omega
      have q2' : ((yv : Int) - 1 == (xv : Int)) = true := by simp; omega
      rw [if_neg (by omega)] at hzz
      clear h0 h1
      have HZ := Lib.hid hzz
      clear hzz
      go_enter Tryd.func39, Tryd.ntmps39
      go_wp2_with (rw [HW.out.1, HW.out.2.1])
      refine (HV0.out _ (HR.out.grown HG1.out)).mono ?_
      rintro e w2 ⟨rfl, g2⟩
      have hb2 := g2.heap HB1.out (by simp)
      have HG2 := Lib.hid (grownBy_trans HG1.out g2)
      clear g2 x0 x1 x2 x3 x4 y0 y1 y2 y3 y4 q0 q1 q2 q2'
      obtain ⟨y0, y1, y2, y3, y4⟩ := cells5 hb2
      clear hb2
      by_cases he : er = 0
      · have s0 : V.size ≠ 0 := fun q => (HVS.out.1 q) he
        have s1 : V.toList.isEmpty = false := by rw [emp]; simpa using s0
        have s2 : (V.toList == []) = false := by rw [beq_eq_false_iff_ne]; intro q; rw [q] at s1; cases s1
        have HE := Lib.hid he
        by_cases hp : yp = V
        · have p1 : (yp.toList == V.toList) = true := by rw [eq_strE]; simpa using hp
          have p2 : (yp.toList != V.toList) = false := by rw [bne, p1]; rfl
          have hz0 := HZ.out
          rw [if_neg (by rw [HE.out, hp]; simp)] at hz0
          subst hz0
          clear hp s0 he
          go_wp2_with fail
          go_ret
          exact ⟨rfl, HG2.out⟩
        · have p1 : (yp.toList == V.toList) = false := by rw [eq_strE]; simpa using hp
          have p2 : (yp.toList != V.toList) = true := by rw [bne, p1]; rfl
          have hz0 := HZ.out
          rw [if_pos (.inr hp)] at hz0
          subst hz0
          clear hp s0 he
          go_wp2_with fail
          go_ret
          exact ⟨rfl, HG2.out⟩
      · have s0 : V.size = 0 := HVS.out.2 he
        have s1 : V.toList.isEmpty = true := by rw [emp]; simpa using s0
        have s2 : (V.toList == []) = true := by rw [beq_iff_eq]; exact List.isEmpty_iff.1 s1
        have hz0 := HZ.out
        rw [if_pos (.inl he)] at hz0
        subst hz0
        clear he s0
        go_wp2_with fail
        go_ret
        exact ⟨rfl, HG2.out⟩
    · rw [if_pos (.inr h1)] at hzz
      subst hzz
      have q2 : ((yv : Int) - 1 != (xv : Int)) = true := by simp; omega
      have q2' : ((yv : Int) - 1 == (xv : Int)) = false := by rw [beq_eq_false_iff_ne]; omega
      clear HV0 HVS x1 x2 x3 x4
      go_enter Tryd.func39, Tryd.ntmps39
      go_wp2_with (rw [HW.out.1, HW.out.2.1])
      go_ret
      exact ⟨rfl, HG1.out⟩

/-! lists of entries -/
/-- a list of entries in memory -/
def EntsAt (w : World) (v : Value) (L : List EntS) : Prop :=
  ∃ a cap, v = .slice a L.length cap ∧ ∀ i (h : i < L.length), ∃ g o, a = some ⟨g, o, none⟩ ∧ w.cell? ⟨g, o + i * 5, none⟩ = some (.int .u64 (L[i]).v) ∧ w.cell? ⟨g, o + i * 5 + 1, none⟩ = some (.string (L[i]).o) ∧ w.cell? ⟨g, o + i * 5 + 2, none⟩ = some (.string (L[i]).r) ∧ w.cell? ⟨g, o + i * 5 + 3, none⟩ = some (.int .i64 (L[i]).h) ∧ w.cell? ⟨g, o + i * 5 + 4, none⟩ = some (.string (L[i]).p)
theorem EntsAt.grown {w w' : World} {v : Value} {L : List EntS} (h : EntsAt w v L) (k : w.grownBy w' none) : EntsAt w' v L := by
  obtain ⟨a, c, e, hc⟩ := h
  refine ⟨a, c, e, fun i hi => ?_⟩
  obtain ⟨g, o, e2, h0, h1, h2, h3, h4⟩ := hc i hi
  exact ⟨g, o, e2, k.cell h0 (by simp), k.cell h1 (by simp), k.cell h2 (by simp), k.cell h3 (by simp), k.cell h4 (by simp)⟩
theorem EntsAt.at_ {w : World} {a : Option Addr} {n cap : Nat} {L : List EntS} (h : EntsAt w (.slice a n cap) L) (i : Nat) (x : EntS) (hx : L[i]? = some x) : ∃ g o, a = some ⟨g, o, none⟩ ∧ w.cell? ⟨g, o + i * 5, none⟩ = some (.int .u64 x.v) ∧ w.cell? ⟨g, o + i * 5 + 1, none⟩ = some (.string x.o) ∧ w.cell? ⟨g, o + i * 5 + 2, none⟩ = some (.string x.r) ∧ w.cell? ⟨g, o + i * 5 + 3, none⟩ = some (.int .i64 x.h) ∧ w.cell? ⟨g, o + i * 5 + 4, none⟩ = some (.string x.p) := by
  obtain ⟨a', c', e, hc⟩ := h
  injection e with e1 e2 e3
  obtain ⟨hi, rfl⟩ := List.getElem?_eq_some_iff.1 hx
  obtain ⟨g, o, e4, hcs⟩ := hc i hi
  exact ⟨g, o, e1.trans e4, hcs⟩
theorem EntsAt.len {w : World} {a : Option Addr} {n cap : Nat} {L : List EntS} (h : EntsAt w (.slice a n cap) L) : L.length = n := by
  obtain ⟨_, _, e, _⟩ := h
  injection e with _ e _
  exact e.symm
theorem chainE_drop (L : List EntS) (k : Nat) (x y : EntS) (hx : L[k]? = some x) (hy : L[k + 1]? = some y) : chainE (L.drop k) = if x.next y ≠ 0 then x.next y else chainE (L.drop (k + 1)) := by
  obtain ⟨hi, rfl⟩ := List.getElem?_eq_some_iff.1 hx
  obtain ⟨hj, rfl⟩ := List.getElem?_eq_some_iff.1 hy
  rw [List.drop_eq_getElem_cons hi, List.drop_eq_getElem_cons hj]
  rfl
theorem chainE_last (L : List EntS) (k : Nat) (h : L.length ≤ k + 1) : chainE (L.drop k) = 0 := by
  have hl : (L.drop k).length ≤ 1 := by simp; omega
  match hm : L.drop k, hl with
  | [], _ => rfl
  | [_], _ => rfl
  | _ :: _ :: _, h => simp at h
theorem two_cells {w w1 w2 : World} {g i j : Nat} {v0 v1 v2 v3 v4 u0 u1 u2 u3 u4 : Value} (_q : w.grownBy w1 none) (k : w1.grownBy w2 none)
    (h : (w1.cell? ⟨g, i, none⟩ = some v0 ∧ w1.cell? ⟨g, i + 1, none⟩ = some v1 ∧ w1.cell? ⟨g, i + 2, none⟩ = some v2 ∧ w1.cell? ⟨g, i + 3, none⟩ = some v3 ∧ w1.cell? ⟨g, i + 4, none⟩ = some v4) ∧ w1.cell? ⟨g, j, none⟩ = some u0 ∧ w1.cell? ⟨g, j + 1, none⟩ = some u1 ∧ w1.cell? ⟨g, j + 2, none⟩ = some u2 ∧ w1.cell? ⟨g, j + 3, none⟩ = some u3 ∧ w1.cell? ⟨g, j + 4, none⟩ = some u4) :
    w2.cell? ⟨g, i, none⟩ = some v0 ∧ w2.cell? ⟨g, i + 1, none⟩ = some v1 ∧ w2.cell? ⟨g, i + 2, none⟩ = some v2 ∧ w2.cell? ⟨g, i + 3, none⟩ = some v3 ∧ w2.cell? ⟨g, i + 4, none⟩ = some v4 ∧ w2.cell? ⟨g, j, none⟩ = some u0 ∧ w2.cell? ⟨g, j + 1, none⟩ = some u1 ∧ w2.cell? ⟨g, j + 2, none⟩ = some u2 ∧ w2.cell? ⟨g, j + 3, none⟩ = some u3 ∧ w2.cell? ⟨g, j + 4, none⟩ = some u4 := by
  obtain ⟨⟨h0, h1, h2, h3, h4⟩, k0, k1, k2, k3, k4⟩ := h
  exact ⟨k.cell h0 (by simp), k.cell h1 (by simp), k.cell h2 (by simp), k.cell h3 (by simp), k.cell h4 (by simp), k.cell k0 (by simp), k.cell k1 (by simp), k.cell k2 (by simp), k.cell k3 (by simp), k.cell k4 (by simp)⟩
set_option maxRecDepth 100000 in
set_option maxHeartbeats 3200000 in
theorem ehistory_any (v : Value) (L : List EntS) (hL : ∀ x ∈ L, x.small) (hn : L.length ≤ 1000000) (w : World) (hr : ShaReady w) (hv : EntsAt w v L) :
    Calls Tryd.prog 30 #[v] w fun e w' => e = .returned (.int .i64 (histE L)) ∧ w.grownBy w' none := by
  obtain ⟨a, cap, rfl⟩ : ∃ a cap, v = .slice a L.length cap := let ⟨a, cap, e, _⟩ := hv; ⟨a, cap, e⟩
  have HV := Lib.hid hv
  have HR := Lib.hid hr
  have HS := Lib.hid hL
  obtain ⟨n, hnn⟩ : ∃ n, L.length = n := ⟨_, rfl⟩
  rw [hnn] at hn HV ⊢
  have HN := Lib.hid hnn
  clear hv hr hL
  rcases Nat.eq_zero_or_pos n with h0 | hpos
  · subst h0
    obtain rfl : L = [] := List.length_eq_zero_iff.1 hnn
    clear hnn
    go_enter Tryd.func30, Tryd.ntmps30
    go_wp2_with fail
    go_ret
    exact ⟨rfl, World.grownBy.refl _ _⟩
  · obtain ⟨x, hx⟩ : ∃ x, L[0]? = some x := ⟨_, List.getElem?_eq_getElem (by omega)⟩
    obtain ⟨g, o, rfl, c0, c1, c2, c3, c4⟩ := HV.out.at_ 0 x hx
    simp only [Nat.zero_mul, Nat.add_zero] at c0 c1 c2 c3 c4
    have hxv := (HS.out x (List.mem_of_getElem? hx)).v
    have hH : histE L = if x.v ≠ 1 then 13 else if x.p ≠ noughtsS then 15 else chainE L := by
      cases L with
      | nil => cases hx
      | cons y l => cases hx; rfl
    rw [hH]
    obtain ⟨xv, hxvv⟩ : ∃ xv, x.v = xv := ⟨_, rfl⟩
    obtain ⟨xp, hxpp⟩ : ∃ xp, x.p = xp := ⟨_, rfl⟩
    rw [hxvv] at c0 hxv ⊢
    rw [hxpp] at c4 ⊢
    have n0 : ((n : Int) == 0) = false := beq_eq_false_iff_ne.2 (by omega)
    have n1 : (0 : Int) < (n : Int) := by omega
    clear hH hx hxvv hxpp hnn c1 c2 c3
    by_cases hv1 : xv = 1
    · have v1 : ((xv : Int) != 1) = false := by simp; omega
      have v2 : ((xv : Int) == 1) = true := by simp; omega
      rw [if_neg (by simp [hv1])]
      have hnl : noughtsS.toList = [0, 0, 0, 0, 0, 0, 0, 0, 0, 0, 0, 0, 0, 0, 0, 0] := by rw [ByteArray.toList_eq]; rfl
      by_cases hp : xp = noughtsS
      · have p1 : (xp.toList == [0, 0, 0, 0, 0, 0, 0, 0, 0, 0, 0, 0, 0, 0, 0, 0]) = true := by rw [← hnl, eq_strE]; simpa using hp
        have p2 : (xp.toList != [0, 0, 0, 0, 0, 0, 0, 0, 0, 0, 0, 0, 0, 0, 0, 0]) = false := by rw [bne, p1]; rfl
        rw [if_neg (by simp [hp])]
        have hsub : ∃ m, n = m + 1 := ⟨n - 1, by omega⟩
        obtain ⟨m, hm⟩ := hsub
        have e1 : (n : Int) - 1 = (m : Int) := by omega
        have HM := Lib.hid hm
        clear hp hnl hv1 hm
        go_enter Tryd.func30, Tryd.ntmps30
        go_wp2_with fail
        clear c0 c4
        go_loopw [3, 4, 21] (fun _ _ cv wr => ∃ k : Nat, k ≤ m ∧ cv = .int .i64 k ∧ Hid (chainE L = chainE (L.drop k)) ∧ Hid (w.grownBy wr none)) (fun _ _ cv _ => m - (intOf cv).toNat)
        case atStart => exact ⟨0, Nat.zero_le _, rfl, rfl, World.grownBy.refl _ _⟩
        case round =>
          obtain ⟨k, hk, rfl, HC, HG⟩ := hrel
          by_cases hlt : k < m
          · have k1 : (k : Int) < (m : Int) := by omega
            have k0 : (0 : Int) ≤ (k : Int) := by omega
            obtain ⟨x, hx⟩ : ∃ x, L[k]? = some x := ⟨_, List.getElem?_eq_getElem (by have := HN.out; have := HM.out; omega)⟩
            obtain ⟨y, hy⟩ : ∃ y, L[k + 1]? = some y := ⟨_, List.getElem?_eq_getElem (by have := HN.out; have := HM.out; omega)⟩
            obtain ⟨g1, o1, e, ha⟩ := (HV.out.grown HG.out).at_ k x hx
            cases e
            obtain ⟨g1, o1, e, hb⟩ := (HV.out.grown HG.out).at_ (k + 1) y hy
            cases e
            have HAB := Lib.hid (And.intro ha hb)
            obtain ⟨a0, a1, a2, a3, a4⟩ := ha
            obtain ⟨b0, b1, b2, b3, b4⟩ := hb
            have hcd := chainE_drop L k x y hx hy
            have HNX := Lib.hid (fun w' q => enext_any x y (HS.out x (List.mem_of_getElem? hx)) (HS.out y (List.mem_of_getElem? hy)) w' q)
            unfold EntS.val at HNX
            have HCD := Lib.hid hcd
            obtain ⟨z, hz⟩ : ∃ z, x.next y = z := ⟨_, rfl⟩
            rw [hz] at HNX HCD
            have k2 : (k : Int) + 1 < (n : Int) := by have := HM.out; omega
            have k3 : (k : Int) < (n : Int) := by have := HM.out; omega
            have w1 : IntKind.i64.wrap ((k : Int) + 1) = (k : Int) + 1 := IntWalk.i64_in _ (by have := HM.out; omega)
            have w2 : ((k : Int) + 1).toNat = k + 1 := by omega
            have w3 : (0 : Int) ≤ (k : Int) + 1 := by omega
            clear hx hy hcd hz e1
            go_wp2_with fail
            go_region_held3 (fun w' => w'.cell? ⟨g, o + k * 5, none⟩ = some (.int .u64 x.v) ∧ w'.cell? ⟨g, o + k * 5 + 1, none⟩ = some (.string x.o) ∧ w'.cell? ⟨g, o + k * 5 + 2, none⟩ = some (.string x.r) ∧ w'.cell? ⟨g, o + k * 5 + 3, none⟩ = some (.int .i64 x.h) ∧ w'.cell? ⟨g, o + k * 5 + 4, none⟩ = some (.string x.p) ∧ w'.cell? ⟨g, o + (k + 1) * 5, none⟩ = some (.int .u64 y.v) ∧ w'.cell? ⟨g, o + (k + 1) * 5 + 1, none⟩ = some (.string y.o) ∧ w'.cell? ⟨g, o + (k + 1) * 5 + 2, none⟩ = some (.string y.r) ∧ w'.cell? ⟨g, o + (k + 1) * 5 + 3, none⟩ = some (.int .i64 y.h) ∧ w'.cell? ⟨g, o + (k + 1) * 5 + 4, none⟩ = some (.string y.p)) (first | exact ck | exact ⟨a0, a1, a2, a3, a4, b0, b1, b2, b3, b4⟩)
              ((go_at_call 39; (with_reducible refine (HNX.out _ (HR.out.grown (grownBy_drew HG.out))).mono ?_); rintro e w4 ⟨rfl, g4⟩; have ck := two_cells (grownBy_drew (World.grownBy.refl wr none)) g4 HAB.out))
            have HG4 := Lib.hid (grownBy_trans (grownBy_drew HG.out) g4)
            clear ck g4 a0 a1 a2 a3 a4 b0 b1 b2 b3 b4
            by_cases hz0 : z = 0
            · have z1 : (z != 0) = false := by simp [hz0]
              have z2 : (z == 0) = true := by simp [hz0]
              have HZ := Lib.hid hz0
              clear hz0
              go_wp2_with fail
              go_roundw
              case rel => exact ⟨k + 1, by omega, by go_num, by show _ = _; rw [HC.out, HCD.out, if_neg (by rw [HZ.out]; simp)], HG4.out⟩
              case measure => simp [intOf]; omega
            · have z1 : (z != 0) = true := by simp [hz0]
              have z2 : (z == 0) = false := by simp [hz0]
              have HZ := Lib.hid hz0
              clear hz0
              go_wp2_with fail
              go_ret
              exact ⟨by rw [HC.out, HCD.out, if_pos HZ.out]; rfl, HG4.out⟩
          · have k1 : ¬ (k : Int) < (m : Int) := by omega
            have hc := HC.out
            rw [chainE_last L k (by have := HN.out; have := HM.out; omega)] at hc
            have HC2 := Lib.hid hc
            clear hc
            go_wp2_with fail
            go_ret
            exact ⟨by rw [HC2.out]; rfl, HG.out⟩
      · have p1 : (xp.toList == [0, 0, 0, 0, 0, 0, 0, 0, 0, 0, 0, 0, 0, 0, 0, 0]) = false := by rw [← hnl, eq_strE]; simpa using hp
        have p2 : (xp.toList != [0, 0, 0, 0, 0, 0, 0, 0, 0, 0, 0, 0, 0, 0, 0, 0]) = true := by rw [bne, p1]; rfl
        rw [if_pos hp]
        clear hp hnl hv1
        go_enter Tryd.func30, Tryd.ntmps30
        go_wp2_with fail
        go_ret
        exact ⟨rfl, World.grownBy.refl _ _⟩
    · have v1 : ((xv : Int) != 1) = true := by simp; omega
      have v2 : ((xv : Int) == 1) = false := beq_eq_false_iff_ne.2 (by omega)
      rw [if_pos hv1]
      clear hv1
      go_enter Tryd.func30, Tryd.ntmps30
      go_wp2_with fail
      go_ret
      exact ⟨rfl, World.grownBy.refl _ _⟩
end Go.Proofs.YtgaenpbdfelhhaaDoor

namespace Go.Proofs.YtgaenpbdfelhhaaDoor

/-! digits -/
/-- digits to a base, the highest first -/
def num (B : Nat) (l : List Nat) : Nat := l.foldl (fun a x => a * B + x) 0
theorem num_foldl (B : Nat) (l : List Nat) (a : Nat) : l.foldl (fun a x => a * B + x) a = a * B ^ l.length + num B l := by
  induction l generalizing a with
  | nil => simp [num]
  | cons x l ih =>
    rw [num, List.foldl_cons, List.foldl_cons, ih, ih, List.length_cons, Nat.pow_succ, Nat.add_mul, Nat.zero_mul, Nat.zero_add, Nat.mul_assoc, Nat.mul_comm B, Nat.add_assoc]
theorem num_append (B : Nat) (l m : List Nat) : num B (l ++ m) = num B l * B ^ m.length + num B m := by
  rw [num, List.foldl_append, num_foldl]
  rfl
theorem num_one (B x : Nat) : num B [x] = x := by simp [num]
theorem num_cons (B x : Nat) (l : List Nat) : num B (x :: l) = x * B ^ l.length + num B l := by
  rw [← List.singleton_append, num_append, num_one]
theorem num_lt (B : Nat) (hB : 0 < B) (l : List Nat) (h : ∀ x ∈ l, x < B) : num B l < B ^ l.length := by
  induction l with
  | nil => simp [num]
  | cons x l ih =>
    have h1 := ih fun y hy => h y (List.mem_cons_of_mem _ hy)
    have h2 := h x List.mem_cons_self
    rw [num_cons, List.length_cons, Nat.pow_succ]
    have : (x + 1) * B ^ l.length ≤ B * B ^ l.length := Nat.mul_le_mul_right _ h2
    rw [Nat.add_mul, Nat.one_mul, Nat.mul_comm B] at this
    omega
theorem num_split (B : Nat) (hB : 0 < B) (a b c : List Nat) (ha : ∀ x ∈ b, x < B) (hc : ∀ x ∈ c, x < B) : num B (a ++ b ++ c) / B ^ c.length % B ^ b.length = num B b := by
  have h1 := num_lt B hB c hc
  have h2 := num_lt B hB b ha
  have hp : 0 < B ^ c.length := Nat.pow_pos hB
  rw [num_append, Nat.mul_comm _ (B ^ c.length), Nat.mul_add_div hp, Nat.div_eq_of_lt h1, Nat.add_zero, num_append, Nat.mul_comm _ (B ^ b.length), Nat.mul_add_mod, Nat.mod_eq_of_lt h2]
theorem num_sub (B : Nat) (hB : 0 < B) (l : List Nat) (h : ∀ x ∈ l, x < B) (i k : Nat) (hi : i + k ≤ l.length) : num B ((l.drop i).take k) = num B l / B ^ (l.length - i - k) % B ^ k := by
  have e : l = l.take i ++ (l.drop i).take k ++ (l.drop i).drop k := by rw [List.append_assoc, List.take_append_drop, List.take_append_drop]
  have hs := num_split B hB (l.take i) ((l.drop i).take k) ((l.drop i).drop k) (fun x hx => h x (List.mem_of_mem_drop (List.mem_of_mem_take hx))) (fun x hx => h x (List.mem_of_mem_drop (List.mem_of_mem_drop hx)))
  rw [← e] at hs
  rw [← hs]
  have l1 : ((l.drop i).drop k).length = l.length - i - k := by simp; omega
  have l2 : ((l.drop i).take k).length = k := by simp; omega
  rw [l1, l2]
theorem num_at (B : Nat) (hB : 0 < B) (l : List Nat) (h : ∀ x ∈ l, x < B) (i : Nat) (hi : i < l.length) : num B l / B ^ (l.length - 1 - i) % B = l[i] := by
  have := num_sub B hB l h i 1 (by omega)
  rw [Nat.pow_one, show l.length - i - 1 = l.length - 1 - i from by omega] at this
  rw [← this, List.drop_eq_getElem_cons hi, List.take_succ_cons, List.take_zero, num_one]

/-! bytes -/
def numB (l : List UInt8) : Nat := num 256 (l.map UInt8.toNat)
theorem bytes_lt (l : List UInt8) : ∀ x ∈ l.map UInt8.toNat, x < 256 := by
  intro x hx
  obtain ⟨b, _, rfl⟩ := List.mem_map.1 hx
  exact b.toNat_lt
theorem numB_append (l m : List UInt8) : numB (l ++ m) = numB l * 256 ^ m.length + numB m := by
  unfold numB
  rw [List.map_append, num_append, List.length_map]
theorem numB_lt (l : List UInt8) : numB l < 256 ^ l.length := by
  have := num_lt 256 (by decide) _ (bytes_lt l)
  rwa [List.length_map] at this
theorem numB_sub (l : List UInt8) (i k : Nat) (h : i + k ≤ l.length) : numB ((l.drop i).take k) = numB l / 256 ^ (l.length - i - k) % 256 ^ k := by
  have := num_sub 256 (by decide) (l.map UInt8.toNat) (bytes_lt l) i k (by rw [List.length_map]; exact h)
  rw [List.length_map] at this
  rw [numB, numB, ← this, List.map_take, List.map_drop]
theorem numB_be (n k : Nat) : numB (be n k) = n % 256 ^ k := by
  induction k generalizing n with
  | zero => simp [be, numB, num, Nat.mod_one]
  | succ k ih =>
    rw [be, numB_append, ih, Nat.pow_succ]
    have e : numB [UInt8.ofNat (n % 256)] = n % 256 := by simp [numB, num]
    rw [e, List.length_singleton, Nat.pow_one, Nat.mul_comm (256 ^ k), Nat.mod_mul]
    omega
theorem numB_zeros (k : Nat) : numB (List.replicate k 0) = 0 := by
  induction k with
  | zero => rfl
  | succ k ih =>
    rw [List.replicate_succ', numB_append, ih]
    rfl
theorem be_numB (l : List UInt8) : be (numB l) l.length = l := by
  have h : ∀ (k : Nat) (l : List UInt8), l.length = k → be (numB l) k = l := by
    intro k
    induction k with
    | zero => intro l hl; rw [List.length_eq_zero_iff.1 hl]; rfl
    | succ k ih =>
      intro l hl
      obtain ⟨m, x, rfl⟩ : ∃ m x, l = m ++ [x] := by
        rcases List.eq_nil_or_concat l with h | ⟨m, x, h⟩
        · rw [h] at hl; simp at hl
        · exact ⟨m, x, by rw [h, List.concat_eq_append]⟩
      have hm : m.length = k := by simp at hl; exact hl
      have e : numB [x] = x.toNat := by simp [numB, num]
      have hx := x.toNat_lt
      rw [be, numB_append, e, List.length_singleton, Nat.pow_one]
      rw [show (numB m * 256 + x.toNat) / 256 = numB m from by omega, show (numB m * 256 + x.toNat) % 256 = x.toNat from by omega, ih m hm]
      simp
  exact h _ l rfl

/-! the compression -/
def w32 : Nat := 4294967296
/-- rounds: the words ahead as one number -/
noncomputable def goF (ks : List Nat) : Nat → Nat → Nat → Nat → Nat → Nat → Nat → Nat → Nat → Nat :=
  List.rec (motive := fun _ => Nat → Nat → Nat → Nat → Nat → Nat → Nat → Nat → Nat → Nat)
    (fun a b c d e f g h _ => ((((((a * 4294967296 + b) * 4294967296 + c) * 4294967296 + d) * 4294967296 + e) * 4294967296 + f) * 4294967296 + g) * 4294967296 + h)
    (fun k _ ih a b c d e f g h W =>
      (fun t u => ih ((t + (Nat.xor (Nat.xor (Nat.shiftRight (a * 4294967297) 2) (Nat.shiftRight (a * 4294967297) 13)) (Nat.shiftRight (a * 4294967297) 22) + Nat.xor (Nat.land a b) (Nat.land c (Nat.xor a b)))) % 4294967296) a b c ((d + t) % 4294967296) e f g
         (W * 4294967296 % 13407807929942597099574024998205846127479365820592393377723561443721764030073546976801874298166903427690031858186486050853753882811946569946433649006084096 + u))
      (h + Nat.xor (Nat.xor (Nat.shiftRight (e * 4294967297) 6) (Nat.shiftRight (e * 4294967297) 11)) (Nat.shiftRight (e * 4294967297) 25) + Nat.xor g (Nat.land e (Nat.xor f g)) + k + Nat.shiftRight W 480)
      ((fun p q => (Nat.shiftRight W 480 + Nat.xor (Nat.xor (Nat.shiftRight (q * 4294967297) 7) (Nat.shiftRight (q * 4294967297) 18)) (Nat.shiftRight q 3) + Nat.shiftRight W 192 % 4294967296 + Nat.xor (Nat.xor (Nat.shiftRight (p * 4294967297) 17) (Nat.shiftRight (p * 4294967297) 19)) (Nat.shiftRight p 10)) % 4294967296)
        (Nat.shiftRight W 32 % 4294967296) (Nat.shiftRight W 448 % 4294967296)))
    ks
/-- a word turned, up to what lies above 32 bits -/
theorem rot_two (n x : Nat) (hn : n ≤ 32) (hx : x < 4294967296) : (x * 4294967297) / 2 ^ n % 4294967296 = rotr n x := by
  have hp : 0 < 2 ^ n := Nat.two_pow_pos n
  have e32 : 4294967296 = 2 ^ n * 2 ^ (32 - n) := by rw [← Nat.pow_add, Nat.add_sub_cancel' hn]
  have e1 : x * 4294967297 = 2 ^ n * (x * 2 ^ (32 - n)) + x := by
    rw [show (4294967297 : Nat) = 4294967296 + 1 from rfl, Nat.mul_add, Nat.mul_one, e32, Nat.mul_left_comm]
  rw [e1, Nat.mul_add_div hp]
  have e2 : x * 2 ^ (32 - n) = 4294967296 * (x / 2 ^ n) + x % 2 ^ n * 2 ^ (32 - n) := by
    have : x = 2 ^ n * (x / 2 ^ n) + x % 2 ^ n := (Nat.div_add_mod x (2 ^ n)).symm
    conv => lhs; rw [this]
    rw [Nat.add_mul, e32]
    ac_rfl
  rw [e2, Nat.add_assoc, Nat.mul_add_mod]
  have hr := rotr_lt hn hx
  unfold rotr at hr ⊢
  rw [Nat.add_comm (x % 2 ^ n * 2 ^ (32 - n))]
  exact Nat.mod_eq_of_lt hr
theorem xmod (a b : Nat) : (a ^^^ b) % 4294967296 = (a % 4294967296) ^^^ (b % 4294967296) := Nat.xor_mod_two_pow (n := 32)
theorem shr_div (a n : Nat) : Nat.shiftRight a n = a / 2 ^ n := Nat.shiftRight_eq_div_pow a n
theorem sig3 (x i j k : Nat) (hi : i ≤ 32) (hj : j ≤ 32) (hk : k ≤ 32) (hx : x < 4294967296) : Nat.xor (Nat.xor (Nat.shiftRight (x * 4294967297) i) (Nat.shiftRight (x * 4294967297) j)) (Nat.shiftRight (x * 4294967297) k) % 4294967296 = (rotr i x ^^^ rotr j x) ^^^ rotr k x := by
  show ((Nat.shiftRight (x * 4294967297) i ^^^ Nat.shiftRight (x * 4294967297) j) ^^^ Nat.shiftRight (x * 4294967297) k) % 4294967296 = _
  rw [shr_div, shr_div, shr_div, xmod, xmod, rot_two i x hi hx, rot_two j x hj hx, rot_two k x hk hx]
theorem sig2 (x i j k : Nat) (hi : i ≤ 32) (hj : j ≤ 32) (hx : x < 4294967296) : Nat.xor (Nat.xor (Nat.shiftRight (x * 4294967297) i) (Nat.shiftRight (x * 4294967297) j)) (Nat.shiftRight x k) % 4294967296 = (rotr i x ^^^ rotr j x) ^^^ (x / 2 ^ k) := by
  show ((Nat.shiftRight (x * 4294967297) i ^^^ Nat.shiftRight (x * 4294967297) j) ^^^ Nat.shiftRight x k) % 4294967296 = _
  rw [shr_div, shr_div, shr_div, xmod, xmod, rot_two i x hi hx, rot_two j x hj hx, Nat.mod_eq_of_lt (div_lt32 hx)]
theorem ch_two (e f g : Nat) (he : e < 4294967296) (hf : f < 4294967296) (hg : g < 4294967296) : Nat.xor g (Nat.land e (Nat.xor f g)) = chs e f g := by
  show g ^^^ (e &&& (f ^^^ g)) = (e &&& f) ^^^ ((4294967295 - e) &&& g)
  apply Nat.eq_of_testBit_eq
  intro i
  by_cases h : i < 32
  · have : (4294967295 - e).testBit i = !e.testBit i := by
      have := Nat.testBit_two_pow_sub_succ (n := 32) (x := e) (by omega) i
      rw [show (4294967295 - e) = 2 ^ 32 - (e + 1) from by omega, this]
      simp [h]
    simp only [Nat.testBit_xor, Nat.testBit_and, this]
    cases e.testBit i <;> cases f.testBit i <;> cases g.testBit i <;> rfl
  · have z : ∀ x : Nat, x < 4294967296 → x.testBit i = false := fun x hx => Nat.testBit_lt_two_pow (Nat.lt_of_lt_of_le hx (show 2 ^ 32 ≤ 2 ^ i from Nat.pow_le_pow_right (by decide) (by omega)))
    simp only [Nat.testBit_xor, Nat.testBit_and, z e he, z f hf, z g hg]
    simp
theorem maj_two (a b c : Nat) : Nat.xor (Nat.land a b) (Nat.land c (Nat.xor a b)) = maj a b c := by
  show (a &&& b) ^^^ (c &&& (a ^^^ b)) = ((a &&& b) ^^^ (a &&& c)) ^^^ (b &&& c)
  apply Nat.eq_of_testBit_eq
  intro i
  simp only [Nat.testBit_xor, Nat.testBit_and]
  cases a.testBit i <;> cases b.testBit i <;> cases c.testBit i <;> rfl

/-! the schedule, as it goes on -/
/-- the i-th word, of a schedule with no end -/
def wAt (b : List UInt8) (i : Nat) : Nat := (more i (words b 16)).getD i 0
theorem more_prefix (b : List UInt8) (n i : Nat) (h : i < 16 + n) : (more n (words b 16)).getD i 0 = wAt b i := by
  have step : ∀ n, i < 16 + n → (more (n + 1) (words b 16)).getD i 0 = (more n (words b 16)).getD i 0 := by
    intro n hn
    rw [more_succ, List.getD_eq_getElem?_getD, List.getElem?_append_left (by rw [more_length, words_length]; exact hn), List.getD_eq_getElem?_getD]
  have up : ∀ d n, i < 16 + n → (more (n + d) (words b 16)).getD i 0 = (more n (words b 16)).getD i 0 := by
    intro d
    induction d with
    | zero => intro n _; rfl
    | succ d ih => intro n hn; rw [← Nat.add_assoc, step _ (by omega), ih n hn]
  unfold wAt
  rcases Nat.le_total n i with hle | hle
  · have := up (i - n) n h
    rw [show n + (i - n) = i from by omega] at this
    exact this.symm
  · have := up (n - i) i (by omega)
    rw [show i + (n - i) = n from by omega] at this
    exact this
theorem wAt_next (b : List UInt8) (i : Nat) : wAt b (i + 16) = (wAt b i + sig0 (wAt b (i + 1)) + wAt b (i + 9) + sig1 (wAt b (i + 14))) % 4294967296 := by
  have hl : (more i (words b 16)).length = 16 + i := by rw [more_length, words_length]
  have e : (more (i + 1) (words b 16)).getD (i + 16) 0 = nextW (more i (words b 16)) := by
    have : ∀ (l : List Nat) (x k : Nat), l.length = k → (l ++ [x]).getD k 0 = x := by
      intro l x k hk
      subst hk
      simp
    rw [more_succ]
    exact this _ _ _ (by rw [hl]; omega)
  rw [← more_prefix b (i + 1) (i + 16) (by omega), e, nextW, hl, show 16 + i - 16 = i from by omega, show 16 + i - 15 = i + 1 from by omega, show 16 + i - 7 = i + 9 from by omega, show 16 + i - 2 = i + 14 from by omega,
    more_prefix b i i (by omega), more_prefix b i (i + 1) (by omega), more_prefix b i (i + 9) (by omega), more_prefix b i (i + 14) (by omega)]
theorem wAt_lt (b : List UInt8) (i : Nat) : wAt b i < 4294967296 := getD_lt (more_lt _ _ (words_lt b 16)) (by decide) _
theorem key480' (n m : Nat) (hn : n = m + m) (hm : m = 240) : (3121748550315992231381597229793166305748598142664971150859156959625371738819765620120306103063491971159826931121406622895447975679288285306290176 : Nat) = 2 ^ n := by
  rw [hn, Nat.pow_add, hm]
theorem key480 (n : Nat) (h : n = 480) : (3121748550315992231381597229793166305748598142664971150859156959625371738819765620120306103063491971159826931121406622895447975679288285306290176 : Nat) = 2 ^ n := key480' n 240 (by omega) rfl
theorem key512 (n : Nat) (h : n = 480) : (13407807929942597099574024998205846127479365820592393377723561443721764030073546976801874298166903427690031858186486050853753882811946569946433649006084096 : Nat) = 2 ^ n * 4294967296 := by
  rw [← key480 n h]
theorem shr_mod (W n : Nat) (h : W < 2 ^ n * 4294967296) : Nat.shiftRight W n % 4294967296 = Nat.shiftRight W n := by
  rw [shr_div]
  exact Nat.mod_eq_of_lt (Nat.div_lt_of_lt_mul h)
/-- the sixteen words from i on, as one number -/
def Win (b : List UInt8) (i W : Nat) : Prop := W < 13407807929942597099574024998205846127479365820592393377723561443721764030073546976801874298166903427690031858186486050853753882811946569946433649006084096 ∧ ∀ j, j < 16 → W / 2 ^ (32 * (15 - j)) % 4294967296 = wAt b (i + j)
theorem Win.next {b : List UInt8} {i W u : Nat} (h : Win b i W) (hu : u = wAt b (i + 16)) : Win b (i + 1) (W * 4294967296 % 13407807929942597099574024998205846127479365820592393377723561443721764030073546976801874298166903427690031858186486050853753882811946569946433649006084096 + u) := by
  have hlt : u < 4294967296 := by rw [hu]; exact wAt_lt b _
  have e512 : (13407807929942597099574024998205846127479365820592393377723561443721764030073546976801874298166903427690031858186486050853753882811946569946433649006084096 : Nat) = 3121748550315992231381597229793166305748598142664971150859156959625371738819765620120306103063491971159826931121406622895447975679288285306290176 * 4294967296 := by decide
  have e : W * 4294967296 % 13407807929942597099574024998205846127479365820592393377723561443721764030073546976801874298166903427690031858186486050853753882811946569946433649006084096 = W % 3121748550315992231381597229793166305748598142664971150859156959625371738819765620120306103063491971159826931121406622895447975679288285306290176 * 4294967296 := by rw [e512, Nat.mul_mod_mul_right]
  have hm : W % 3121748550315992231381597229793166305748598142664971150859156959625371738819765620120306103063491971159826931121406622895447975679288285306290176 < 3121748550315992231381597229793166305748598142664971150859156959625371738819765620120306103063491971159826931121406622895447975679288285306290176 := Nat.mod_lt _ (by decide)
  rw [e]
  refine ⟨?_, fun j hj => ?_⟩
  · rw [e512]
    omega
  · by_cases hj15 : j = 15
    · subst hj15
      rw [show 32 * (15 - 15) = 0 from rfl, Nat.pow_zero, Nat.div_one, Nat.mul_comm, Nat.mul_add_mod, Nat.mod_eq_of_lt hlt, hu]
    · have h2 := h.2 (j + 1) (by omega)
      rw [show i + 1 + j = i + (j + 1) from by omega, ← h2]
      obtain ⟨m, hmm⟩ : ∃ m, 15 - j = m + 1 := ⟨14 - j, by omega⟩
      rw [hmm, show 15 - (j + 1) = m from by omega, show 32 * (m + 1) = 32 + 32 * m from by omega, Nat.pow_add, ← Nat.div_div_eq_div_mul]
      rw [show (2 : Nat) ^ 32 = 4294967296 from by decide, show (W % 3121748550315992231381597229793166305748598142664971150859156959625371738819765620120306103063491971159826931121406622895447975679288285306290176 * 4294967296 + u) / 4294967296 = W % 3121748550315992231381597229793166305748598142664971150859156959625371738819765620120306103063491971159826931121406622895447975679288285306290176 from by omega]
      have e480 : (3121748550315992231381597229793166305748598142664971150859156959625371738819765620120306103063491971159826931121406622895447975679288285306290176 : Nat) = 2 ^ (32 * m) * 2 ^ (480 - 32 * m) := by rw [← Nat.pow_add]; exact key480 _ (by omega)
      rw [e480, Nat.mod_mul_right_div_self, Nat.mod_mod_of_dvd _ ?_]
      obtain ⟨r, hr⟩ : ∃ r, 480 - 32 * m = 32 + r := ⟨480 - 32 * m - 32, by omega⟩
      rw [hr, Nat.pow_add]
      exact Nat.dvd_mul_right _ _
theorem Win.first (b : List UInt8) (hb : b.length = 64) : Win b 0 (numB b) := by
  have hl := numB_lt b
  rw [hb] at hl
  have e512 : (13407807929942597099574024998205846127479365820592393377723561443721764030073546976801874298166903427690031858186486050853753882811946569946433649006084096 : Nat) = 256 ^ 64 := by
    rw [show 64 = 31 + 31 + 2 from rfl, Nat.pow_add, Nat.pow_add]
  refine ⟨by rw [e512]; exact hl, fun j hj => ?_⟩
  have h1 := numB_sub b (4 * j) 4 (by omega)
  rw [hb] at h1
  have e : numB ((b.drop (4 * j)).take 4) = word b j := by
    have g : ∀ k, k < 4 → ((b.drop (4 * j)).take 4)[k]? = some (b.getD (4 * j + k) 0) := by
      intro k hk
      rw [List.getElem?_take, if_pos hk, List.getElem?_drop, List.getD_eq_getElem?_getD, List.getElem?_eq_getElem (by omega)]
      rfl
    have e4 : (b.drop (4 * j)).take 4 = [b.getD (4 * j) 0, b.getD (4 * j + 1) 0, b.getD (4 * j + 2) 0, b.getD (4 * j + 3) 0] := by
      apply List.ext_getElem?
      intro k
      match k with
      | 0 => exact g 0 (by decide)
      | 1 => exact g 1 (by decide)
      | 2 => exact g 2 (by decide)
      | 3 => exact g 3 (by decide)
      | k + 4 => rw [List.getElem?_eq_none (by simp; omega), List.getElem?_eq_none (by simp)]
    rw [e4]
    simp [numB, num, word]
  rw [Nat.zero_add]
  have e3 : wAt b j = word b j := by
    rw [← more_prefix b 0 j (by omega)]
    show (words b 16).getD j 0 = _
    rw [words, List.getD_eq_getElem?_getD, List.getElem?_map, List.getElem?_range (by omega)]
    rfl
  rw [e3, ← e, h1, show 64 - 4 * j - 4 = 4 * (15 - j) from by omega, show (256 : Nat) ^ (4 * (15 - j)) = 2 ^ (32 * (15 - j)) from by rw [show (256 : Nat) = 2 ^ 8 from by decide, ← Nat.pow_mul]; congr 1; omega]

/-! rounds -/
def St.num (s : St) : Nat := ((((((s.a * 4294967296 + s.b) * 4294967296 + s.c) * 4294967296 + s.d) * 4294967296 + s.e) * 4294967296 + s.f) * 4294967296 + s.g) * 4294967296 + s.h
def steps (f : St → Nat → Nat → St) (w : Nat → Nat) : List Nat → Nat → St → St
  | [], _, s => s
  | k :: ks, i, s => steps f w ks (i + 1) (f s k (w i))
theorem goF_cons (k : Nat) (ks : List Nat) (a b c d e f g h W : Nat) : goF (k :: ks) a b c d e f g h W =
    goF ks ((h + Nat.xor (Nat.xor (Nat.shiftRight (e * 4294967297) 6) (Nat.shiftRight (e * 4294967297) 11)) (Nat.shiftRight (e * 4294967297) 25) + Nat.xor g (Nat.land e (Nat.xor f g)) + k + Nat.shiftRight W 480 + (Nat.xor (Nat.xor (Nat.shiftRight (a * 4294967297) 2) (Nat.shiftRight (a * 4294967297) 13)) (Nat.shiftRight (a * 4294967297) 22) + Nat.xor (Nat.land a b) (Nat.land c (Nat.xor a b)))) % 4294967296) a b c
      ((d + (h + Nat.xor (Nat.xor (Nat.shiftRight (e * 4294967297) 6) (Nat.shiftRight (e * 4294967297) 11)) (Nat.shiftRight (e * 4294967297) 25) + Nat.xor g (Nat.land e (Nat.xor f g)) + k + Nat.shiftRight W 480)) % 4294967296) e f g
      (W * 4294967296 % 13407807929942597099574024998205846127479365820592393377723561443721764030073546976801874298166903427690031858186486050853753882811946569946433649006084096 + (Nat.shiftRight W 480 + Nat.xor (Nat.xor (Nat.shiftRight (Nat.shiftRight W 448 % 4294967296 * 4294967297) 7) (Nat.shiftRight (Nat.shiftRight W 448 % 4294967296 * 4294967297) 18)) (Nat.shiftRight (Nat.shiftRight W 448 % 4294967296) 3) + Nat.shiftRight W 192 % 4294967296 + Nat.xor (Nat.xor (Nat.shiftRight (Nat.shiftRight W 32 % 4294967296 * 4294967297) 17) (Nat.shiftRight (Nat.shiftRight W 32 % 4294967296 * 4294967297) 19)) (Nat.shiftRight (Nat.shiftRight W 32 % 4294967296) 10)) % 4294967296) := by
  unfold goF
  dsimp only
theorem goF_congr (ks : List Nat) {a a' e e' W W' : Nat} (b c d f g h : Nat) (h1 : a = a') (h2 : e = e') (h3 : W = W') : goF ks a b c d e f g h W = goF ks a' b c d e' f g h W' := by rw [h1, h2, h3]
theorem sig0_of (q x : Nat) (h : q = x) (hx : x < 4294967296) : Nat.xor (Nat.xor (Nat.shiftRight (q * 4294967297) 7) (Nat.shiftRight (q * 4294967297) 18)) (Nat.shiftRight q 3) % 4294967296 = sig0 x := by
  subst h
  exact sig2 q 7 18 3 (by decide) (by decide) hx
theorem sig1_of (q x : Nat) (h : q = x) (hx : x < 4294967296) : Nat.xor (Nat.xor (Nat.shiftRight (q * 4294967297) 17) (Nat.shiftRight (q * 4294967297) 19)) (Nat.shiftRight q 10) % 4294967296 = sig1 x := by
  subst h
  exact sig2 q 17 19 10 (by decide) (by decide) hx
theorem sum_four (w w' x y y' z X Y : Nat) (hw : w = w') (hy : y = y') (h1 : X % 4294967296 = x) (h2 : Y % 4294967296 = z) : (w + X + y + Y) % 4294967296 = (w' + x + y' + z) % 4294967296 := by omega
theorem win_at {b : List UInt8} {i W : Nat} (hW : Win b i W) (j n : Nat) (hj : j < 16) (hn : n = 32 * (15 - j)) : Nat.shiftRight W n % 4294967296 = wAt b (i + j) := by
  subst hn
  rw [shr_div]
  exact hW.2 j hj
theorem win_zero {b : List UInt8} {i W : Nat} (hW : Win b i W) : Nat.shiftRight W 480 = wAt b i :=
  (shr_mod W 480 (Nat.lt_of_lt_of_eq hW.1 (key512 480 rfl))).symm.trans (win_at hW 0 480 (by decide) rfl)
theorem sched_u {b : List UInt8} {i W : Nat} (hW : Win b i W) :
    (Nat.shiftRight W 480 + Nat.xor (Nat.xor (Nat.shiftRight (Nat.shiftRight W 448 % 4294967296 * 4294967297) 7) (Nat.shiftRight (Nat.shiftRight W 448 % 4294967296 * 4294967297) 18)) (Nat.shiftRight (Nat.shiftRight W 448 % 4294967296) 3) + Nat.shiftRight W 192 % 4294967296 + Nat.xor (Nat.xor (Nat.shiftRight (Nat.shiftRight W 32 % 4294967296 * 4294967297) 17) (Nat.shiftRight (Nat.shiftRight W 32 % 4294967296 * 4294967297) 19)) (Nat.shiftRight (Nat.shiftRight W 32 % 4294967296) 10)) % 4294967296 = wAt b (i + 16) := by
  have w1 : Nat.shiftRight W 448 % 4294967296 = wAt b (i + 1) := win_at hW 1 448 (by decide) rfl
  have w9 : Nat.shiftRight W 192 % 4294967296 = wAt b (i + 9) := win_at hW 9 192 (by decide) rfl
  have w14 : Nat.shiftRight W 32 % 4294967296 = wAt b (i + 14) := win_at hW 14 32 (by decide) rfl
  rw [wAt_next]
  exact sum_four _ _ _ _ _ _ _ _ (win_zero hW) w9 (sig0_of _ _ w1 (wAt_lt b _)) (sig1_of _ _ w14 (wAt_lt b _))
theorem fstep_a (s : St) (k w w' X1 X0 c m : Nat) (hw : w = w') (h1 : X1 % 4294967296 = Sig1 s.e) (h0 : X0 % 4294967296 = Sig0 s.a) (hc : c = chs s.e s.f s.g) (hm : m = maj s.a s.b s.c) : (s.h + X1 + c + k + w + (X0 + m)) % 4294967296 = (s.step k w').a := by
  show _ = (t1 s k w' + t2 s) % 4294967296
  rw [t1, t2, ← h1, ← h0, hc, hm, hw]
  omega
theorem fstep_e (s : St) (k w w' X1 c : Nat) (hw : w = w') (h1 : X1 % 4294967296 = Sig1 s.e) (hc : c = chs s.e s.f s.g) : (s.d + (s.h + X1 + c + k + w)) % 4294967296 = (s.step k w').e := by
  show _ = (s.d + t1 s k w') % 4294967296
  rw [t1, ← h1, hc, hw]
  omega
theorem goF_is (b : List UInt8) (ks : List Nat) : ∀ (i : Nat) (s : St) (W : Nat), s.ok → Win b i W → goF ks s.a s.b s.c s.d s.e s.f s.g s.h W = (steps St.step (wAt b) ks i s).num := by
  induction ks with
  | nil => intro i s W _ _; rfl
  | cons k ks ih =>
    intro i s W hs hW
    obtain ⟨ha, hb, hc, hd, he, hf, hg, hh⟩ := hs
    have hst : (s.step k (wAt b i)).ok := step_ok ⟨ha, hb, hc, hd, he, hf, hg, hh⟩ _ _
    have s1 := sig3 s.e 6 11 25 (by decide) (by decide) (by decide) he
    have s0 := sig3 s.a 2 13 22 (by decide) (by decide) (by decide) ha
    have hc' := ch_two _ _ _ he hf hg
    have hm' := maj_two s.a s.b s.c
    have h1 := ih (i + 1) _ _ hst (hW.next (sched_u hW))
    rw [goF_cons, steps, ← h1]
    exact goF_congr ks _ _ _ _ _ _ (fstep_a s k _ _ _ _ _ _ (win_zero hW) s1 s0 hc' hm') (fstep_e s k _ _ _ _ (win_zero hW) s1 hc') rfl
theorem steps_gen (b : List UInt8) (s : St) (K ws : List Nat) (hK : K.length ≤ 64) (hw : ∀ i, i < 64 → ws.getD i 0 = wAt b i) : ∀ (d i : Nat), i + d = K.length → steps St.step (wAt b) (K.drop i) i (roundsTo s K ws i) = roundsTo s K ws K.length := by
  intro d
  induction d with
  | zero =>
    intro i hi
    obtain rfl : i = K.length := by omega
    rw [List.drop_length]
    rfl
  | succ d ih =>
    intro i hi
    rw [← ih (i + 1) (by omega), List.drop_eq_getElem_cons (by omega), steps, roundsTo, hw i (by omega), List.getD_eq_getElem?_getD, List.getElem?_eq_getElem (by omega)]
    rfl
theorem goF_rounds (b : List UInt8) (hb : b.length = 64) (s : St) (hs : s.ok) : goF rootsL s.a s.b s.c s.d s.e s.f s.g s.h (numB b) = (roundsTo s rootsL (sched b) 64).num := by
  rw [goF_is b rootsL 0 s _ hs (Win.first b hb)]
  have hl : rootsL.length = 64 := rfl
  have := steps_gen b s rootsL (sched b) (by rw [hl]; decide) (fun i hi => more_prefix b 48 i (by omega)) 64 0 (by rw [hl])
  rw [hl] at this
  exact congrArg St.num this
end Go.Proofs.YtgaenpbdfelhhaaDoor

namespace Go.Proofs.YtgaenpbdfelhhaaDoor

theorem num_list (s : St) : s.num = num 4294967296 s.list := by simp [St.num, num, St.list]
theorem list_lt (s : St) (h : s.ok) : ∀ x ∈ s.list, x < 4294967296 := by
  obtain ⟨ha, hb, hc, hd, he, hf, hg, hh⟩ := h
  intro x hx
  simp [St.list] at hx
  rcases hx with rfl | rfl | rfl | rfl | rfl | rfl | rfl | rfl <;> assumption
theorem digit (s : St) (h : s.ok) (i e : Nat) (hi : i < 8) (he : 4294967296 ^ (7 - i) = 2 ^ e) : Nat.shiftRight s.num e % 4294967296 = s.list[i] := by
  have := num_at 4294967296 (by decide) s.list (list_lt s h) i hi
  rw [← num_list] at this
  rw [shr_div, ← this, ← he]
  rfl
def packF (a b c d e f g h r : Nat) : Nat :=
  ((((((((a + Nat.shiftRight r 224) % 4294967296) * 4294967296 + (b + Nat.shiftRight r 192) % 4294967296) * 4294967296 + (c + Nat.shiftRight r 160) % 4294967296) * 4294967296 + (d + Nat.shiftRight r 128) % 4294967296) * 4294967296 + (e + Nat.shiftRight r 96) % 4294967296) * 4294967296 + (f + Nat.shiftRight r 64) % 4294967296) * 4294967296 + (g + Nat.shiftRight r 32) % 4294967296) * 4294967296 + (h + r) % 4294967296
noncomputable def mixG (a b c d e f g h blk : Nat) : Nat := packF a b c d e f g h (goF rootsL a b c d e f g h blk)
noncomputable def mixF (H blk : Nat) : Nat :=
  mixG (Nat.shiftRight H 224 % 4294967296) (Nat.shiftRight H 192 % 4294967296) (Nat.shiftRight H 160 % 4294967296) (Nat.shiftRight H 128 % 4294967296) (Nat.shiftRight H 96 % 4294967296) (Nat.shiftRight H 64 % 4294967296) (Nat.shiftRight H 32 % 4294967296) (H % 4294967296) blk
theorem add_mod_of (a x y : Nat) (h : x % 4294967296 = y) : (a + x) % 4294967296 = (a + y) % 4294967296 := by omega
theorem num_eq (s : St) (a b c d e f g h : Nat) (ha : a = s.a) (hb : b = s.b) (hc : c = s.c) (hd : d = s.d) (he : e = s.e) (hf : f = s.f) (hg : g = s.g) (hh : h = s.h) :
    ((((((a * 4294967296 + b) * 4294967296 + c) * 4294967296 + d) * 4294967296 + e) * 4294967296 + f) * 4294967296 + g) * 4294967296 + h = s.num := by subst ha hb hc hd he hf hg hh; rfl
theorem digit0 (s : St) (h : s.ok) : s.num % 4294967296 = s.h := by
  have := digit s h 7 0 (by decide) (by decide)
  rw [shr_div, Nat.pow_zero, Nat.div_one] at this
  exact this
theorem packF_is (s r : St) (ho : r.ok) : packF s.a s.b s.c s.d s.e s.f s.g s.h r.num = (s.add r).num := by
  have r0 : Nat.shiftRight r.num 224 % 4294967296 = r.a := digit r ho 0 224 (by decide) (by decide)
  have r1 : Nat.shiftRight r.num 192 % 4294967296 = r.b := digit r ho 1 192 (by decide) (by decide)
  have r2 : Nat.shiftRight r.num 160 % 4294967296 = r.c := digit r ho 2 160 (by decide) (by decide)
  have r3 : Nat.shiftRight r.num 128 % 4294967296 = r.d := digit r ho 3 128 (by decide) (by decide)
  have r4 : Nat.shiftRight r.num 96 % 4294967296 = r.e := digit r ho 4 96 (by decide) (by decide)
  have r5 : Nat.shiftRight r.num 64 % 4294967296 = r.f := digit r ho 5 64 (by decide) (by decide)
  have r6 : Nat.shiftRight r.num 32 % 4294967296 = r.g := digit r ho 6 32 (by decide) (by decide)
  exact num_eq (s.add r) _ _ _ _ _ _ _ _ (add_mod_of _ _ _ r0) (add_mod_of _ _ _ r1) (add_mod_of _ _ _ r2) (add_mod_of _ _ _ r3) (add_mod_of _ _ _ r4) (add_mod_of _ _ _ r5) (add_mod_of _ _ _ r6) (add_mod_of _ _ _ (digit0 r ho))
theorem mixG_is (s : St) (hs : s.ok) (b : List UInt8) (hb : b.length = 64) : mixG s.a s.b s.c s.d s.e s.f s.g s.h (numB b) = (s.mix b).num := by
  unfold mixG St.mix
  rw [goF_rounds b hb s hs]
  exact packF_is s _ (roundsTo_ok hs rootsL (sched b) 64)
theorem mixG_congr {a b c d e f g h a' b' c' d' e' f' g' h' : Nat} (blk : Nat) (ha : a = a') (hb : b = b') (hc : c = c') (hd : d = d') (he : e = e') (hf : f = f') (hg : g = g') (hh : h = h') : mixG a b c d e f g h blk = mixG a' b' c' d' e' f' g' h' blk := by subst ha hb hc hd he hf hg hh; rfl
theorem mixF_is (s : St) (hs : s.ok) (b : List UInt8) (hb : b.length = 64) : mixF s.num (numB b) = (s.mix b).num := by
  rw [← mixG_is s hs b hb]
  exact mixG_congr _ (digit s hs 0 224 (by decide) (by decide)) (digit s hs 1 192 (by decide) (by decide)) (digit s hs 2 160 (by decide) (by decide)) (digit s hs 3 128 (by decide) (by decide)) (digit s hs 4 96 (by decide) (by decide)) (digit s hs 5 64 (by decide) (by decide)) (digit s hs 6 32 (by decide) (by decide)) (digit0 s hs)

noncomputable def blkF (p nb n : Nat) : Nat := Nat.rec (motive := fun _ => Nat) 47962653771679561900652889051773562940742041696833059450490514104358170316057 (fun i ih => mixF ih (Nat.shiftRight p (512 * (nb - 1 - i)) % 13407807929942597099574024998205846127479365820592393377723561443721764030073546976801874298166903427690031858186486050853753882811946569946433649006084096)) n
theorem start_num : start.num = 47962653771679561900652889051773562940742041696833059450490514104358170316057 := by decide
theorem fblocks_ok (s : St) (hs : s.ok) (l : List UInt8) (n : Nat) : (blocksTo s l n).ok := by
  cases n with
  | zero => exact hs
  | succ n => exact mix_ok _ _
theorem blkF_is (p : List UInt8) (nb : Nat) (hp : p.length = 64 * nb) : ∀ n, n ≤ nb → blkF (numB p) nb n = (blocksTo start p n).num := by
  intro n
  induction n with
  | zero => intro _; exact start_num.symm
  | succ n ih =>
    intro hn
    have h1 := numB_sub p (64 * n) 64 (by omega)
    have hl : ((p.drop (64 * n)).take 64).length = 64 := by rw [List.length_take, List.length_drop]; omega
    rw [blocksTo, ← mixF_is _ (fblocks_ok _ start_ok _ _) _ hl, ← ih (by omega), h1, hp]
    show mixF (blkF (numB p) nb n) _ = _
    congr 1
    rw [shr_div]
    have e1 : 64 * nb - 64 * n - 64 = 64 * (nb - 1 - n) := by omega
    have e2 : (256 : Nat) ^ (64 * (nb - 1 - n)) = 2 ^ (512 * (nb - 1 - n)) := by
      rw [show (256 : Nat) = 2 ^ 8 from by decide, ← Nat.pow_mul]
      congr 1
      omega
    have e3 : (256 : Nat) ^ 64 = 13407807929942597099574024998205846127479365820592393377723561443721764030073546976801874298166903427690031858186486050853753882811946569946433649006084096 := by rw [show 64 = 31 + 31 + 2 from rfl, Nat.pow_add, Nat.pow_add]
    rw [e1, e2, e3]
noncomputable def digF (T m : Nat) : Nat := blkF ((T * 256 + 128) * 256 ^ ((119 - m % 64) % 64 + 8) + 8 * m % 18446744073709551616) ((m + 72) / 64) ((m + 72) / 64)
theorem numB_one (x : UInt8) : numB [x] = x.toNat := by simp [numB, num]
theorem pad_num (l : List UInt8) : numB (pad l) = (numB l * 256 + 128) * 256 ^ ((119 - l.length % 64) % 64 + 8) + 8 * l.length % 18446744073709551616 := by
  have e : pad l = l ++ [128] ++ List.replicate ((119 - l.length % 64) % 64) 0 ++ be (8 * l.length) 8 := by simp [pad]
  have e8 : numB (be (8 * l.length) 8) = 8 * l.length % 18446744073709551616 := by rw [numB_be]
  rw [e, numB_append, e8, numB_append, numB_zeros, numB_append, numB_one, be_length, List.length_replicate, List.length_singleton, Nat.pow_one, Nat.add_zero, Nat.mul_assoc, ← Nat.pow_add]
  rfl
theorem bytes_num (s : St) (hs : s.ok) : numB s.bytes = s.num := by
  obtain ⟨ha, hb, hc, hd, he, hf, hg, hh⟩ := hs
  have e : s.bytes = be s.a 4 ++ be s.b 4 ++ be s.c 4 ++ be s.d 4 ++ be s.e 4 ++ be s.f 4 ++ be s.g 4 ++ be s.h 4 := by simp [St.bytes, St.list]
  have q : ∀ x, x < 4294967296 → numB (be x 4) = x := fun x hx => by rw [numB_be]; exact Nat.mod_eq_of_lt hx
  rw [e]
  simp only [numB_append, be_length, q _ ha, q _ hb, q _ hc, q _ hd, q _ he, q _ hf, q _ hg, q _ hh]
  rfl
theorem shaL_num (l : List UInt8) : numB (shaL l) = digF (numB l) l.length := by
  unfold shaL digF
  rw [bytes_num _ (fblocks_ok _ start_ok _ _), ← pad_num, blkF_is (pad l) _ (pad_length l) _ (Nat.le_refl _)]

/-! texts: a number and how many bytes it has -/
def txt (t : Nat × Nat) : ByteArray := str (be t.1 t.2)
def foldT : List (Nat × Nat) → Nat → Nat
  | [], T => T
  | t :: r, T => foldT r ((T * 4294967296 + t.2 % 4294967296) * 256 ^ t.2 + t.1 % 256 ^ t.2)
def lenT : List (Nat × Nat) → Nat → Nat
  | [], m => m
  | t :: r, m => lenT r (m + (4 + t.2))
noncomputable def tagF (tag : Nat) (ts : List (Nat × Nat)) : Nat := digF (foldT ts (tag % 256)) (lenT ts 1) / 340282366920938463463374607431768211456 % 340282366920938463463374607431768211456
theorem fold_num : ∀ (ts : List (Nat × Nat)) (p : List UInt8), numB (p ++ (ts.map txt).flatMap fun s => be s.size 4 ++ s.data.toList) = foldT ts (numB p) ∧ (p ++ (ts.map txt).flatMap fun s => be s.size 4 ++ s.data.toList).length = lenT ts p.length
  | [], p => by simp [foldT, lenT]
  | t :: r, p => by
    have hs : (txt t).size = t.2 := by unfold txt; rw [str_size, be_length]
    have hd : (txt t).data.toList = be t.1 t.2 := rfl
    have e : p ++ ((t :: r).map txt).flatMap (fun s => be s.size 4 ++ s.data.toList) = (p ++ be t.2 4 ++ be t.1 t.2) ++ (r.map txt).flatMap (fun s => be s.size 4 ++ s.data.toList) := by
      rw [List.map_cons, List.flatMap_cons, hs, hd]
      simp only [List.append_assoc]
    obtain ⟨h1, h2⟩ := fold_num r (p ++ be t.2 4 ++ be t.1 t.2)
    rw [e, h1, h2]
    constructor
    · rw [numB_append, numB_append, numB_be, numB_be, be_length, be_length]
      rfl
    · rw [lenT]
      congr 1
      simp only [List.length_append, be_length]
      omega
theorem tag_texts (tag : Nat) (ts : List (Nat × Nat)) : tagS (UInt8.ofNat tag) (ts.map txt) = txt (tagF tag ts, 16) := by
  have hT : numB (tagB (UInt8.ofNat tag) (ts.map txt)) = foldT ts (tag % 256) ∧ (tagB (UInt8.ofNat tag) (ts.map txt)).length = lenT ts 1 := by
    have := fold_num ts [UInt8.ofNat tag]
    rw [numB_one] at this
    have e : (UInt8.ofNat tag).toNat = tag % 256 := by simp
    rw [e] at this
    exact this
  unfold tagS txt tagF
  have h1 := numB_sub (shaL (tagB (UInt8.ofNat tag) (ts.map txt))) 0 16 (by rw [shaL_length]; decide)
  rw [shaL_num, shaL_length, hT.1, hT.2, List.drop_zero] at h1
  have h2 := be_numB ((shaL (tagB (UInt8.ofNat tag) (ts.map txt))).take 16)
  rw [List.length_take, shaL_length, h1] at h2
  exact congrArg str h2.symm
end Go.Proofs.YtgaenpbdfelhhaaDoor

namespace Go.Proofs.YtgaenpbdfelhhaaDoor
open Go.RowKit

def bytesV (l : List UInt8) : List Value := l.map fun c => .int .u8 c.toNat
theorem infoB : (Tryd.prog.info? 5).map (fun i => (i.zero, i.size, i.bytes)) = some (some (.int .u8 0), 1, 1) := by kernel_rfl
theorem made_bytes (n : Nat) : (madeCells #[Value.int .u8 0] n).toList = bytesV (List.replicate n 0) := by
  apply List.ext_getElem?
  intro i
  simp [madeCells, bytesV, List.getElem?_replicate]
  by_cases h : i < n <;> simp [h, Nat.mod_one]
/-- 'string(b)', b a row of the call's own that holds bytes -/
theorem own_str {wr : World} {B g k cap : Nat} {l : List UInt8} (h : wr.ownsRow B 5 1 (.slice (some ⟨g, 0, none⟩) k cap) k (bytesV l)) :
    (convert 72 9 (.slice (some ⟨g, 0, none⟩) k cap)).run Tryd.prog wr = .ok (.string (str l)) wr := by
  have hl : l.length = k := by simpa [bytesV] using h.1
  subst hl
  refine run_convert_bytes_back wr 72 9 5 _ cap l Tryd.underlying72 Tryd.underlying5 Tryd.underlying9 fun j hj => ?_
  rw [show Addr.add ⟨g, 0, none⟩ j = (⟨g, j, none⟩ : Addr) from by simp [Addr.add]; omega, h.cellAt j (by simpa using hj)]
  simp [bytesV, List.getElem?_eq_getElem hj]
/-- 'string(b[:])', b a block of bytes -/
theorem blk_str {w : World} {g : Nat} {l : List UInt8} {t : TypeId} (h : w.heap[g]? = some (.cells (bytesV l).toArray t (0, 0))) (cap : Nat) :
    (convert 72 9 (.slice (some ⟨g, 0, none⟩) l.length cap)).run Tryd.prog w = .ok (.string (str l)) w := by
  refine run_convert_bytes_back w 72 9 5 _ cap l Tryd.underlying72 Tryd.underlying5 Tryd.underlying9 fun j hj => ?_
  rw [show Addr.add ⟨g, 0, none⟩ j = (⟨g, j, none⟩ : Addr) from by simp [Addr.add]; omega, cell_of h, List.getElem?_toArray]
  simp [bytesV, List.getElem?_eq_getElem hj]
end Go.Proofs.YtgaenpbdfelhhaaDoor

namespace Go.Proofs.YtgaenpbdfelhhaaDoor
open Go.RowKit Go.ChangeShapes Go.WideShapes

theorem cell_plain' {w : World} {a : Addr} {n : Nat} {v : Value} (h : w.cell? (a.add n) = some v) : w.cell? ⟨a.block, a.off + n, none⟩ = some v := by
  have hs := World.cell?_spot h
  obtain ⟨b, o, sp⟩ := a
  by_cases hn : n = 0
  · subst hn
    have : sp = none := by simpa [Addr.add] using hs
    subst this
    simpa [Addr.add] using h
  · simpa [Addr.add, hn] using h

section
variable {H : Type} {enc : TypeId × Value → H} {P : Program} {w : World} {base : Nat} {spare : Nat → Bool} {held : Bool}
def byteOf : Value → UInt8 | .int _ n => UInt8.ofNat n.toNat | _ => 0
/-- an array of bytes -/
theorem open_byte_array {r : Reach} {b0 : Nat} {t e : TypeId} {n : Nat} {v : Value} {d : DataW H} {p : List MemPlace} (hu : P.underlying t = some (.array n e)) (he : P.underlying e = some (.int .u8)) (hce : P.cellsOf e = 1) (hct : P.cellsOf t = n)
    (hval : Value.okWide P w r b0 t v) (h : DataW.Trod enc P w base spare held t v d p) : ∃ l : List UInt8, l.length = n ∧ v = .agg (bytesV l).toArray := by
  simp only [Value.okWide, hu] at hval
  obtain ⟨cs, rfl, hsz, -⟩ := hval
  obtain ⟨fuel, hf⟩ := h
  obtain ⟨xs, m, rfl, hx, hcl, hxl, hat⟩ := DataW.trod_array hu hf
  have hcs : cs.toList.length = n := by rw [← hct]; simpa using hsz
  refine ⟨cs.toList.map byteOf, by simpa using hcs, ?_⟩
  congr 1
  apply Array.toList_inj.1
  apply List.ext_getElem (by simp [bytesV])
  intro i h1 h2
  have hi : i < n := by omega
  have h3 := hat i hi
  have hxi : xs[i]? = some (xs[i]'(by omega)) := List.getElem?_eq_getElem (by omega)
  have h4 : ((Value.agg cs).cells.toList.drop (i * P.cellsOf e)).take (P.cellsOf e) = [cs.toList[i]] := by
    rw [hce, Nat.mul_one]
    show (cs.toList.drop i).take 1 = _
    rw [List.drop_eq_getElem_cons (by omega)]
    rfl
  rw [h4, hxi] at h3
  obtain ⟨a, ea, -, wa⟩ := DataW.trod_int he h3
  simp only [List.cons.injEq, and_true] at ea
  have hb : 0 ≤ a ∧ a ≤ 255 := by simpa [Lit.wf, IntKind.min, IntKind.max, IntKind.signed, IntKind.bits] using wa
  simp only [bytesV, List.getElem_map, List.getElem_toArray, ea, byteOf]
  congr 1
  simp
  omega
/-- a slice of integers: nil, or cells -/
theorem open_int_slice {t e : TypeId} {a0 : Option Addr} {len cap : Nat} {d : DataW H} {p : List MemPlace} (ht : P.underlying t = some (.slice e)) (he : P.underlying e = some (.int .i64)) (hc : P.cellsOf e = 1)
    (h : DataW.Trod enc P w base spare held t (.slice a0 len cap) d p) : ∃ L : List Int, L.length = len ∧ IntsAt w (.slice a0 len cap) L ∧ len ≤ cap ∧ cap ≤ maxLen ∧ ∀ x ∈ L, -9223372036854775808 ≤ x ∧ x ≤ 9223372036854775807 := by
  obtain ⟨fuel, hf⟩ := h
  rcases open_ints ht he hc hf with ⟨hcs, hx⟩ | ⟨a, len', cap', zs, hcs, _, hl, hm, hz, hx, hcell, hws⟩
  · have hv : Value.slice a0 len cap = .slice none 0 0 := by simpa [Value.cells] using hcs
    cases hv
    exact ⟨[], rfl, IntsAt.nil _ _ _, Nat.le_refl _, by unfold maxLen; omega, by simp⟩
  · have hv : Value.slice a0 len cap = .slice (some a) len' cap' := by simpa [Value.cells] using hcs
    cases hv
    have hls : len ≤ zs.length := by rw [hz]; split <;> omega
    have hlen : (zs.take len).length = len := by simp; omega
    refine ⟨zs.take len, hlen, ⟨some a, cap, by rw [hlen], fun i hi => ?_⟩, hl, hm, fun x hx => ?_⟩
    · have hc' := hcell i (by omega)
      have h00 := World.cell?_spot (hcell 0 (by omega))
      obtain ⟨g, o, sp⟩ := a
      obtain rfl : sp = none := by simpa [Addr.add] using h00
      refine ⟨g, o, rfl, ?_⟩
      rw [cell_plain' hc', List.getElem_take, List.getD_eq_getElem?_getD, List.getElem?_eq_getElem (by omega)]
      rfl
    · have := hws x (List.mem_of_mem_take hx)
      simpa [Lit.wf, IntKind.min, IntKind.max, IntKind.signed, IntKind.bits] using this
/-- an array of integers -/
theorem open_int_array {r : Reach} {b0 : Nat} {t e : TypeId} {n : Nat} {k : IntKind} {v : Value} {d : DataW H} {p : List MemPlace} (hu : P.underlying t = some (.array n e)) (he : P.underlying e = some (.int k)) (hce : P.cellsOf e = 1) (hct : P.cellsOf t = n)
    (hval : Value.okWide P w r b0 t v) (h : DataW.Trod enc P w base spare held t v d p) : ∃ l : List Int, l.length = n ∧ (∀ x ∈ l, (Lit.int k x).wf = true) ∧ v = .agg (l.map (Value.int k)).toArray := by
  simp only [Value.okWide, hu] at hval
  obtain ⟨cs, rfl, hsz, -⟩ := hval
  obtain ⟨fuel, hf⟩ := h
  obtain ⟨xs, m, rfl, hx, hcl, hxl, hat⟩ := DataW.trod_array hu hf
  have hcs : cs.toList.length = n := by rw [← hct]; simpa using hsz
  have each : ∀ i (hi : i < n), ∃ a, cs.toList[i]'(by omega) = .int k a ∧ (Lit.int k a).wf = true := by
    intro i hi
    have h3 := hat i hi
    have hxi : xs[i]? = some (xs[i]'(by omega)) := List.getElem?_eq_getElem (by omega)
    have h4 : ((Value.agg cs).cells.toList.drop (i * P.cellsOf e)).take (P.cellsOf e) = [cs.toList[i]'(by omega)] := by
      rw [hce, Nat.mul_one]
      show (cs.toList.drop i).take 1 = _
      rw [List.drop_eq_getElem_cons (by omega)]
      rfl
    rw [h4, hxi] at h3
    obtain ⟨a, ea, -, wa⟩ := DataW.trod_int he h3
    simp only [List.cons.injEq, and_true] at ea
    exact ⟨a, ea, wa⟩
  refine ⟨cs.toList.map intOf, by simpa using hcs, ?_, ?_⟩
  · intro x hx
    obtain ⟨v, hv, rfl⟩ := List.mem_map.1 hx
    obtain ⟨i, hi, rfl⟩ := List.getElem_of_mem hv
    obtain ⟨a, ea, wa⟩ := each i (by omega)
    rw [ea]
    exact wa
  · congr 1
    apply Array.toList_inj.1
    apply List.ext_getElem (by simp)
    intro i h1 h2
    obtain ⟨a, ea, wa⟩ := each i (by omega)
    simp only [List.getElem_map, ea, intOf]
end
end Go.Proofs.YtgaenpbdfelhhaaDoor

namespace Go.Proofs.YtgaenpbdfelhhaaDoor
open Go.ChangeShapes Go.WideShapes Go.ChangeAt Go.RowKit

variable {H : Type} {enc : TypeId × Value → H} {P : Program}

/-- The row's post where nothing that was there has turned ('again' is false: nothing is asked of what is frozen). -/
theorem post_of_below {f : Func} {s : ChangeSpec} {apart fresh handsOn : Bool} {W W' : World} {args : Array Value} {v : Value} {ds gs : List (DataW H)} {before pa pv : List MemPlace}
    (hW : DataW.Whole enc P f.params.toList s.vars apart W args.toList ds gs before)
    (hres : ∀ (b : Nat) (sp : Nat → Bool) (hd : Bool), DataW.TrodAll enc P W' b sp hd f.resultTypes.toList (v.resultList f.resultTypes.size) (s.fn H (ds ++ gs)).results [])
    (hargs : ∀ sp : Nat → Bool, (∀ p ∈ before, sp p.block = true) → DataW.TrodAll enc P W' 0 sp true f.params.toList args.toList (s.fn H (ds ++ gs)).args pa)
    (hvars : ∀ sp : Nat → Bool, (∀ p ∈ before, sp p.block = true) → DataW.TrodVars enc P W' sp s.vars (s.fn H (ds ++ gs)).vars pv)
    (hps : before = pa ++ pv) (hk : Below W.heap.size W W') :
    s.post enc P f apart fresh handsOn false W args v W' := by
  have hold : ∀ p ∈ before, (fun b => decide (b < W.heap.size)) p.block = true := fun p hp => by simpa using hW.lt p hp
  refine ⟨ds, gs, before, [], pa, pv, hW, hres _ _ _, hargs _ hold, hvars _ hold, World.keptBut_mono (fun p hp => ⟨hp, ?_⟩) (hk.frame (· ∈ before)), fun h => by cases h⟩
  rw [hps, List.mem_append] at hp
  exact Or.inr hp

/-- The same, what was handed in being read again by 'Below.trod'. -/
theorem post_of_below_at {f : Func} {s : ChangeSpec} {apart fresh handsOn : Bool} {W W' : World} {args : Array Value} {v : Value} {ds gs : List (DataW H)} {before pa pv : List MemPlace}
    (hW : DataW.Whole enc P f.params.toList s.vars apart W args.toList ds gs before)
    (hres : ∀ (b : Nat) (sp : Nat → Bool) (hd : Bool), DataW.TrodAll enc P W' b sp hd f.resultTypes.toList (v.resultList f.resultTypes.size) (s.fn H (ds ++ gs)).results [])
    (hargs : DataW.TrodAll enc P W' 0 (fun b => decide (b < W.heap.size)) true f.params.toList args.toList (s.fn H (ds ++ gs)).args pa)
    (hvars : DataW.TrodVars enc P W' (fun b => decide (b < W.heap.size)) s.vars (s.fn H (ds ++ gs)).vars pv)
    (hps : before = pa ++ pv) (hk : Below W.heap.size W W') :
    s.post enc P f apart fresh handsOn false W args v W' := by
  refine ⟨ds, gs, before, [], pa, pv, hW, hres _ _ _, hargs, hvars, World.keptBut_mono (fun p hp => ⟨hp, ?_⟩) (hk.frame (· ∈ before)), fun h => by cases h⟩
  rw [hps, List.mem_append] at hp
  exact Or.inr hp
end Go.Proofs.YtgaenpbdfelhhaaDoor
