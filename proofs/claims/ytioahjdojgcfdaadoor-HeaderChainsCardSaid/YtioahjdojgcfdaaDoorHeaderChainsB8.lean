/- The walk of band's Root, at any nodes. · band's Root where it answers with an error. · The walks of header's Genesis, Next, Same and Root. · The walks of header's Next and Same. -/
import Derived.Test.YtioahjdojgcfdaaDoorBndR
import Derived.Test.YtioahjdojgcfdaaDoorHeaderChainsB7
import Derived.Deep.RegionWith
namespace Go.Proofs.YtioahjdojgcfdaaDoor
open Go.RowKit Go.Shelf
attribute [local irreducible] shaL

/-- the root above so many nodes -/
def rootJ : Nat → List ByteArray → ByteArray
  | 0, L => entT L 0
  | d + 1, L => rootJ d (joinedL L)
theorem joinN_fewG {a b : ByteArray} (ha : a.size ≤ 1000) (hb : b.size ≤ 1000) : (joinN a b).size ≤ 1000 := by
  unfold joinN
  split
  · exact hb
  · split
    · exact ha
    · rw [bothS_size]
      decide
theorem entT_fewG {L : List ByteArray} (h : ∀ s ∈ L, s.size ≤ 1000) (k : Nat) : (entT L k).size ≤ 1000 := by
  unfold entT
  rw [List.getD_eq_getElem?_getD]
  cases hk : L[k]? with
  | none => exact Nat.zero_le _
  | some s => exact h s (List.mem_of_getElem? hk)
theorem joinedL_few {L : List ByteArray} (h : ∀ s ∈ L, s.size ≤ 1000) : ∀ s ∈ joinedL L, s.size ≤ 1000 := by
  intro s hs
  obtain ⟨k, _, rfl⟩ := List.mem_map.1 hs
  exact joinN_fewG (entT_fewG h _) (entT_fewG h _)
theorem pow_succG (k : Nat) : 2 ^ (k + 1) = 2 * 2 ^ k := by rw [Nat.pow_succ, Nat.mul_comm]
def lenG : Value → Nat
  | .slice _ n _ => n
  | _ => 0
theorem own_capG {w : World} {B n m : Nat} {t : TypeId} {a : Option Addr} {c : Nat} {xs : List Value} (h : w.ownsRow B t 1 (.slice a m c) n xs) (h0 : 0 < n) : n ≤ c ∧ ∃ g, a = some ⟨g, 0, none⟩ ∧ g < w.heap.size := by
  rcases h.2 with ⟨_, h0'⟩ | ⟨g', cap', cur, e, _, hgb, h1, _⟩
  · omega
  · injection e with e1 e2 e3
    subst e3
    exact ⟨h1, g', e1, (Array.getElem?_eq_some_iff.1 hgb).1⟩
set_option maxRecDepth 100000 in
set_option maxHeartbeats 2000000 in
theorem broot_all (a : Option Addr) (cap : Nat) (L : List ByteArray) (d : Nat) (w : World) (hr : ShaReady w) (hv : StrsAt w (.slice a (2 ^ d) cap) L) (hL : L.length = 2 ^ d) (hcap : 2 ^ d ≤ cap) (hs : ∀ s ∈ L, s.size ≤ 1000) (hd : d ≤ 4) :
    Calls Tryd.prog 109 #[.slice a (2 ^ d : Nat) cap, .int .i64 d] w fun e w' => e = .returned (.tuple #[.string (rootJ d L), .int .i64 0]) ∧ w.grownBy w' none := by
  suffices hmain : Calls Tryd.prog 109 #[.slice a (2 ^ d : Nat) cap, .int .i64 d] w fun e w' => e = .returned (.tuple #[.string (rootJ d L), .int .i64 0]) ∧ Below w.heap.size w w' from hmain.mono (fun e w' h => ⟨h.1, grownBy_below h.2⟩)
  have HC := Lib.hid (fun w' => bcount_in d hd w')
  have hpos : ∀ k, 0 < 2 ^ k := fun k => Nat.pow_pos (by decide)
  have hle : 2 ^ d ≤ 2 ^ 4 := Nat.pow_le_pow_right (by decide) hd
  have HP := Lib.hid (hpos d)
  have HJ : Hid (∀ (k g o cap : Nat) (M : List ByteArray) (wr : World), k + 1 ≤ d → Below w.heap.size w wr → StrsAt wr (.slice (some ⟨g, o, none⟩) (2 ^ (k + 1)) cap) M → M.length = 2 ^ (k + 1) → 2 ^ (k + 1) ≤ cap → (∀ s ∈ M, s.size ≤ 1000) →
      Calls Tryd.prog 129 #[.slice (some ⟨g, o, none⟩) (2 ^ (k + 1) : Nat) cap] wr fun e w' => ∃ g2 c2, e = .returned (.slice (some ⟨g2, 0, none⟩) (2 ^ k : Nat) c2) ∧ 2 ^ k ≤ c2 ∧ StrsAt w' (.slice (some ⟨g2, 0, none⟩) (2 ^ k) c2) (joinedL M) ∧ Below wr.heap.size wr w') := by
    intro k g o cap M wr hk hB hst hlen hcap hM
    have hk4 : 2 ^ k ≤ 2 ^ 4 := Nat.pow_le_pow_right (by decide) (by omega)
    have hg : g < wr.heap.size := hst.lt (by rw [hlen]; exact hpos _)
    have hj := joined_any g o (2 ^ k) cap M wr (hr.grown (grownBy_below hB)) (hpos k) (by omega) (by rw [← pow_succG]; exact hcap) (by rw [hlen, pow_succG]) (by rw [← pow_succG]; exact hst) hM hg
    rw [← pow_succG] at hj
    refine hj.mono ?_
    rintro e w' ⟨u, rfl, hO, hB2⟩
    obtain ⟨a2, c2, rfl⟩ := slice_own' hO
    obtain ⟨h1, g2, rfl, _⟩ := own_capG hO (hpos k)
    exact ⟨g2, c2, rfl, h1, strs_own hO, hB2⟩
  obtain ⟨N, hN⟩ : ∃ N, 2 ^ d = N := ⟨_, rfl⟩
  have HST := Lib.hid (And.intro hv (And.intro hL (And.intro hcap hs)))
  rw [hN] at HC HP
  have hp0 : ((N : Int) == 0) = false := beq_eq_false_iff_ne.2 (by have := HP.out; omega)
  have HN := Lib.hid hN
  rw [hN]
  clear hN hle hpos hr hv hL hcap hs
  go_enter Tryd.func109, Tryd.ntmps109
  go_wp2_with fail
  refine (HC.out _).mono ?_
  rintro e w1 ⟨rfl, rfl⟩
  go_wp2_with fail
  refine (HC.out _).mono ?_
  rintro e w1 ⟨rfl, rfl⟩
  go_wp2_with fail
  go_loopw [0] (fun lv wr => ∃ (k : Nat) (M : List ByteArray) (a2 : Option Addr) (c2 : Nat), k ≤ d ∧ lv = .slice a2 (2 ^ k : Nat) c2 ∧ Hid (StrsAt wr (.slice a2 (2 ^ k) c2) M ∧ M.length = 2 ^ k ∧ 2 ^ k ≤ c2 ∧ (∀ s ∈ M, s.size ≤ 1000) ∧ rootJ k M = rootJ d L) ∧ Hid (Below w.heap.size w wr)) (fun lv _ => lenG lv)
  case atStart => exact ⟨d, L, a, cap, Nat.le_refl _, by rw [HN.out], Lib.hid ⟨HST.out.1, HST.out.2.1, HST.out.2.2.1, HST.out.2.2.2, rfl⟩, Below.refl _ _⟩
  case round =>
    obtain ⟨k, M, a2, c2, hk, rfl, HM, HB⟩ := hrel
    have hkp : 0 < 2 ^ k := Nat.pow_pos (by decide)
    have hk4 : 2 ^ k ≤ 2 ^ 4 := Nat.pow_le_pow_right (by decide) (by omega)
    obtain ⟨s, hs⟩ : ∃ s, M[0]? = some s := ⟨_, List.getElem?_eq_getElem (by have := HM.out.2.1; omega)⟩
    obtain ⟨g, o, rfl, c0⟩ := HM.out.1.at_ 0 s hs
    rw [Nat.add_zero] at c0
    cases k with
    | zero =>
      have hroot : s = rootJ d L := by
        have := HM.out.2.2.2.2
        rw [← this]
        show s = entT M 0
        have h2 := entT_at M 0 (by have := HM.out.2.1; omega)
        rw [hs] at h2
        exact Option.some.inj h2
      clear HJ HC hs
      go_wp2_with fail
      go_returns
      exact ⟨rfl, HB.out⟩
    | succ k =>
      have HJ2 := HJ.out k g o c2 M wr hk HB.out HM.out.1 HM.out.2.1 HM.out.2.2.1 HM.out.2.2.2.1
      have hlt : 2 ^ k < 2 ^ (k + 1) := by have := pow_succG k; have : 0 < 2 ^ k := Nat.pow_pos (by decide); omega
      have hN1 : 1 < 2 ^ (k + 1) := by have := pow_succG k; have : 0 < 2 ^ k := Nat.pow_pos (by decide); omega
      have HNX : Hid ((joinedL M).length = 2 ^ k ∧ (∀ s ∈ joinedL M, s.size ≤ 1000) ∧ rootJ k (joinedL M) = rootJ d L) := Lib.hid ⟨by rw [joinedL_len, HM.out.2.1, pow_succG, Nat.mul_div_cancel_left _ (by decide)], joinedL_few HM.out.2.2.2.1, HM.out.2.2.2.2⟩
      obtain ⟨N2, hN2⟩ : ∃ N2, 2 ^ (k + 1) = N2 := ⟨_, rfl⟩
      rw [hN2] at HJ2 hN1 hlt hk4 ⊢
      have HJ3 := Lib.hid HJ2
      have e1 : (1 : Int) < (N2 : Int) := by omega
      have e2 : (N2 : Int) > 1 := by omega
      clear HJ HC HJ2 hs c0 HM
      go_wp2_with fail
      refine HJ3.out.mono ?_
      rintro e w2 ⟨g2, c3, rfl, hc3, hst, hB2⟩
      have HO2 := Lib.hid (And.intro hst (And.intro HNX.out.1 (And.intro hc3 HNX.out.2)))
      have HB2 := Lib.hid (HB.out.trans (hB2.mono HB.out.size))
      clear hst hB2 hc3
      go_wp2_with fail
      go_roundw
      case rel => exact ⟨k, joinedL M, some ⟨g2, 0, none⟩, c3, by omega, rfl, HO2, HB2⟩
      case measure => simp [lenG]; omega
end Go.Proofs.YtioahjdojgcfdaaDoor

namespace Go.Proofs.YtioahjdojgcfdaaDoor
open Go.RowKit Go.Shelf
attribute [local irreducible] shaL

theorem broot_out (v : Value) (d : Int) (hd : d < 0 ∨ 4 < d) (w : World) :
    Calls Tryd.prog 109 #[v, .int .i64 d] w fun e w' => e = .returned (.tuple #[.string ⟨#[]⟩, .int .i64 1]) ∧ w = w' := by
  have HC := Lib.hid (fun w' => bcount_out d hd w')
  go_enter Tryd.func109, Tryd.ntmps109
  go_wp2_with fail
  refine (HC.out _).mono ?_
  rintro e w1 ⟨rfl, rfl⟩
  go_wp2_with fail
  go_returns
  exact ⟨rfl, rfl⟩
theorem broot_many (a : Option Addr) (n c : Nat) (d : Nat) (hd : d ≤ 4) (hn : n ≠ 2 ^ d) (w : World) :
    Calls Tryd.prog 109 #[.slice a n c, .int .i64 d] w fun e w' => e = .returned (.tuple #[.string ⟨#[]⟩, .int .i64 22]) ∧ w = w' := by
  have HC := Lib.hid (fun w' => bcount_in d hd w')
  have hpos : 0 < 2 ^ d := Nat.pow_pos (by decide)
  obtain ⟨N, hN⟩ : ∃ N, 2 ^ d = N := ⟨_, rfl⟩
  rw [hN] at HC hn hpos
  have hp0 : ((N : Int) == 0) = false := beq_eq_false_iff_ne.2 (by omega)
  have hne : ((n : Int) == (N : Int)) = false := beq_eq_false_iff_ne.2 (by omega)
  clear hN
  go_enter Tryd.func109, Tryd.ntmps109
  go_wp2_with fail
  refine (HC.out _).mono ?_
  rintro e w1 ⟨rfl, rfl⟩
  go_wp2_with fail
  refine (HC.out _).mono ?_
  rintro e w1 ⟨rfl, rfl⟩
  go_wp2_with fail
  go_returns
  exact ⟨rfl, rfl⟩
end Go.Proofs.YtioahjdojgcfdaaDoor

namespace Go.Proofs.YtioahjdojgcfdaaDoor
open Go.RowKit
attribute [local irreducible] shaL

theorem noughts_list : noughtsS.toList = [0, 0, 0, 0, 0, 0, 0, 0, 0, 0, 0, 0, 0, 0, 0, 0] := by rw [ByteArray.toList_eq]; rfl
set_option maxRecDepth 100000 in
set_option maxHeartbeats 1600000 in
theorem hgenesis_any (x : HdrS) (hx : x.small) (v : Value) (w : World) (hv : StrsAt w v x.L) :
    Calls Tryd.prog 27 #[x.val v] w fun e w' => e = .returned (.int .i64 x.gen) ∧ w.grownBy w' none := by
  obtain ⟨a, cap, rfl⟩ := hv.form
  have HCK := Lib.hid (fun w' q => hcheck_any x hx (.slice a x.L.length cap) w' q)
  obtain ⟨G, hG⟩ : ∃ G, x.gen = G := ⟨_, rfl⟩
  rw [hG]
  unfold HdrS.gen at hG
  have hxe := hx.e
  obtain ⟨e, p, d, au, L⟩ := x
  unfold HdrS.val at HCK ⊢
  have hv : StrsAt w (.slice a L.length cap) L := hv
  have hxe : e ≤ 18446744073709551615 := hxe
  generalize (⟨e, p, d, au, L⟩ : HdrS).err = z at HCK hG
  have hG : (if z ≠ 0 then z else if e ≠ 0 then 14 else if p ≠ noughtsS then 15 else 0) = G := hG
  have HCK : Hid (∀ w', StrsAt w' (.slice a L.length cap) L → Calls Tryd.prog 74 #[.agg #[.int .u64 e, .string p, .int .i64 d, .int .i64 au, .slice a L.length cap]] w' fun e w'' => e = .returned (.int .i64 z) ∧ w'.grownBy w'' none) := HCK
  simp only
  have HV := Lib.hid hv
  have hb0 := heap_alloc_at w (.cells #[.int .u64 e, .string p, .int .i64 d, .int .i64 au, .slice a L.length cap] 63) _ rfl
  have hg0 : w.grownBy (w.alloc (.cells #[.int .u64 e, .string p, .int .i64 d, .int .i64 au, .slice a L.length cap] 63)) none := World.grownBy_alloc _ _ _
  obtain ⟨W0, hW0⟩ : ∃ W0, w.alloc (.cells #[.int .u64 e, .string p, .int .i64 d, .int .i64 au, .slice a L.length cap] 63) = W0 := ⟨_, rfl⟩
  obtain ⟨XB, hXB⟩ : ∃ XB, w.heap.size = XB := ⟨_, rfl⟩
  rw [hW0] at hb0 hg0
  rw [hXB] at hb0
  obtain ⟨x0, x1, x2, x3, x4⟩ := cells5 hb0
  have HB0 := Lib.hid hb0
  have HG0 := Lib.hid hg0
  have HW := Lib.hid (And.intro hW0 hXB)
  clear hb0 hg0 hW0 hXB hv hx
  by_cases hz : z = 0
  · have q1 : (z != 0) = false := by simp [hz]
    have q2 : (z == 0) = true := by simp [hz]
    rw [if_neg (by omega)] at hG
    clear hz
    by_cases he : e = 0
    · have r1 : ((e : Int) != 0) = false := by simp [he]
      have r2 : ((e : Int) == 0) = true := by simp [he]
      rw [if_neg (by omega)] at hG
      have hnl := noughts_list
      by_cases hp : p = noughtsS
      · have p1 : (p.toList == [0, 0, 0, 0, 0, 0, 0, 0, 0, 0, 0, 0, 0, 0, 0, 0]) = true := by rw [← hnl, eq_strE]; simpa using hp
        have p2 : (p.toList != [0, 0, 0, 0, 0, 0, 0, 0, 0, 0, 0, 0, 0, 0, 0, 0]) = false := by rw [bne, p1]; rfl
        rw [if_neg (by rw [hp]; simp)] at hG
        subst hG
        clear hp he hnl
        go_enter Tryd.func27, Tryd.ntmps27
        go_wp2_with (rw [HW.out.1, HW.out.2])
        refine (HCK.out _ (HV.out.grown HG0.out)).mono ?_
        rintro e w1 ⟨rfl, g1⟩
        have hb1 := g1.heap HB0.out (by simp)
        have HG1 := Lib.hid (grownBy_trans HG0.out g1)
        clear g1 x0 x1 x2 x3 x4
        obtain ⟨x0, x1, x2, x3, x4⟩ := cells5 hb1
        clear hb1
        go_wp2_with fail
        go_ret
        exact ⟨rfl, HG1.out⟩
      · have p1 : (p.toList == [0, 0, 0, 0, 0, 0, 0, 0, 0, 0, 0, 0, 0, 0, 0, 0]) = false := by rw [← hnl, eq_strE]; simpa using hp
        have p2 : (p.toList != [0, 0, 0, 0, 0, 0, 0, 0, 0, 0, 0, 0, 0, 0, 0, 0]) = true := by rw [bne, p1]; rfl
        rw [if_pos hp] at hG
        subst hG
        clear hp he hnl
        go_enter Tryd.func27, Tryd.ntmps27
        go_wp2_with (rw [HW.out.1, HW.out.2])
        refine (HCK.out _ (HV.out.grown HG0.out)).mono ?_
        rintro e w1 ⟨rfl, g1⟩
        have hb1 := g1.heap HB0.out (by simp)
        have HG1 := Lib.hid (grownBy_trans HG0.out g1)
        clear g1 x0 x1 x2 x3 x4
        obtain ⟨x0, x1, x2, x3, x4⟩ := cells5 hb1
        clear hb1
        go_wp2_with fail
        go_ret
        exact ⟨rfl, HG1.out⟩
    · have r1 : ((e : Int) != 0) = true := by simp; omega
      have r2 : ((e : Int) == 0) = false := by rw [beq_eq_false_iff_ne]; omega
      rw [if_pos he] at hG
      subst hG
      clear he
      go_enter Tryd.func27, Tryd.ntmps27
      go_wp2_with (rw [HW.out.1, HW.out.2])
      refine (HCK.out _ (HV.out.grown HG0.out)).mono ?_
      rintro e w1 ⟨rfl, g1⟩
      have hb1 := g1.heap HB0.out (by simp)
      have HG1 := Lib.hid (grownBy_trans HG0.out g1)
      clear g1 x0 x1 x2 x3 x4
      obtain ⟨x0, x1, x2, x3, x4⟩ := cells5 hb1
      clear hb1
      go_wp2_with fail
      go_ret
      exact ⟨rfl, HG1.out⟩
  · have q1 : (z != 0) = true := by simp [hz]
    have q2 : (z == 0) = false := by simp [hz]
    rw [if_pos hz] at hG
    subst hG
    clear hz
    go_enter Tryd.func27, Tryd.ntmps27
    go_wp2_with (rw [HW.out.1, HW.out.2])
    refine (HCK.out _ (HV.out.grown HG0.out)).mono ?_
    rintro e w1 ⟨rfl, g1⟩
    have HG1 := Lib.hid (grownBy_trans HG0.out g1)
    clear g1 x0 x1 x2 x3 x4
    go_wp2_with fail
    go_ret
    exact ⟨rfl, HG1.out⟩

/-- the root that a header's nodes make -/
def HdrS.root (x : HdrS) : ByteArray := if (0 ≤ x.d ∧ x.d ≤ 4) ∧ x.L.length = 2 ^ x.d.toNat then rootJ x.d.toNat x.L else ⟨#[]⟩
def HdrS.rootE (x : HdrS) : Int := if 0 ≤ x.d ∧ x.d ≤ 4 then if x.L.length = 2 ^ x.d.toNat then 0 else 22 else 1
theorem broot_hdr (x : HdrS) (hs : ∀ s ∈ x.L, s.size ≤ 1000) (a : Option Addr) (n cap : Nat) (w : World) (hr : ShaReady w) (hv : StrsAt w (.slice a n cap) x.L) (hn : x.L.length = n) (hcap : n ≤ cap) :
    Calls Tryd.prog 109 #[.slice a n cap, .int .i64 x.d] w fun e w' => e = .returned (.tuple #[.string x.root, .int .i64 x.rootE]) ∧ w.grownBy w' none := by
  unfold HdrS.root HdrS.rootE
  by_cases hd : 0 ≤ x.d ∧ x.d ≤ 4
  · obtain ⟨k, hk⟩ := Int.eq_ofNat_of_zero_le hd.1
    rw [if_pos hd]
    rw [hk] at hd ⊢
    have e1 : ((k : Int)).toNat = k := rfl
    rw [e1]
    by_cases hl : x.L.length = 2 ^ k
    · rw [if_pos ⟨hd, hl⟩, if_pos hl]
      have hn2 : n = 2 ^ k := by omega
      rw [hn2] at hv hcap ⊢
      exact broot_all a cap x.L k w hr hv hl hcap hs (by omega)
    · rw [if_neg (fun q => hl q.2), if_neg hl]
      exact (broot_many a n cap k (by omega) (by omega) w).mono (fun e w' h => ⟨h.1, by rw [← h.2]; exact World.grownBy.refl _ _⟩)
  · rw [if_neg hd, if_neg (fun q => hd q.1)]
    exact (broot_out _ x.d (by omega) w).mono (fun e w' h => ⟨h.1, by rw [← h.2]; exact World.grownBy.refl _ _⟩)
theorem HdrS.rootE_root (x : HdrS) : x.rootE ≠ 0 → x.root = ⟨#[]⟩ := by
  unfold HdrS.root HdrS.rootE
  intro h
  split at h
  · split at h
    · omega
    · rename_i q
      rw [if_neg (fun r => q r.2)]
  · rename_i q
    rw [if_neg (fun r => q r.1)]
set_option maxRecDepth 100000 in
set_option maxHeartbeats 1600000 in
theorem hroot_any (x : HdrS) (hs : ∀ s ∈ x.L, s.size ≤ 1000) (a : Option Addr) (n cap : Nat) (w : World) (hr : ShaReady w) (hv : StrsAt w (.slice a n cap) x.L) (hn : x.L.length = n) (hcap : n ≤ cap) :
    Calls Tryd.prog 72 #[x.val (.slice a n cap)] w fun e w' => e = .returned (.string x.root) ∧ w.grownBy w' none := by
  have HBR := Lib.hid (fun w' q1 q2 => broot_hdr x hs a n cap w' q1 q2 hn hcap)
  have hre := HdrS.rootE_root x
  unfold HdrS.val
  obtain ⟨e, p, d, au, L⟩ := x
  generalize (⟨e, p, d, au, L⟩ : HdrS).root = R at HBR hre ⊢
  generalize (⟨e, p, d, au, L⟩ : HdrS).rootE = z at HBR hre
  have HBR : Hid (∀ w', ShaReady w' → StrsAt w' (.slice a n cap) L → Calls Tryd.prog 109 #[.slice a n cap, .int .i64 d] w' fun e w'' => e = .returned (.tuple #[.string R, .int .i64 z]) ∧ w'.grownBy w'' none) := HBR
  simp only
  have hv : StrsAt w (.slice a n cap) L := hv
  have HV := Lib.hid hv
  have HR := Lib.hid hr
  have hb0 := heap_alloc_at w (.cells #[.int .u64 e, .string p, .int .i64 d, .int .i64 au, .slice a n cap] 63) _ rfl
  have hg0 : w.grownBy (w.alloc (.cells #[.int .u64 e, .string p, .int .i64 d, .int .i64 au, .slice a n cap] 63)) none := World.grownBy_alloc _ _ _
  obtain ⟨W0, hW0⟩ : ∃ W0, w.alloc (.cells #[.int .u64 e, .string p, .int .i64 d, .int .i64 au, .slice a n cap] 63) = W0 := ⟨_, rfl⟩
  obtain ⟨XB, hXB⟩ : ∃ XB, w.heap.size = XB := ⟨_, rfl⟩
  rw [hW0] at hb0 hg0
  rw [hXB] at hb0
  obtain ⟨x0, x1, x2, x3, x4⟩ := cells5 hb0
  have HG0 := Lib.hid hg0
  have HW := Lib.hid (And.intro hW0 hXB)
  clear hb0 hg0 hW0 hXB hv hr hs
  by_cases hz : z = 0
  · have q1 : (z != 0) = false := by simp [hz]
    have q2 : (z == 0) = true := by simp [hz]
    clear hz hre
    go_enter Tryd.func72, Tryd.ntmps72
    go_wp2_with (rw [HW.out.1, HW.out.2])
    refine (HBR.out _ (HR.out.grown HG0.out) (HV.out.grown HG0.out)).mono ?_
    rintro e w1 ⟨rfl, g1⟩
    have HG1 := Lib.hid (grownBy_trans HG0.out g1)
    clear g1 x0 x1 x2 x3 x4
    go_wp2_with fail
    go_ret
    exact ⟨rfl, HG1.out⟩
  · have q1 : (z != 0) = true := by simp [hz]
    have q2 : (z == 0) = false := by simp [hz]
    have h0 := hre hz
    subst h0
    clear hz hre
    go_enter Tryd.func72, Tryd.ntmps72
    go_wp2_with (rw [HW.out.1, HW.out.2])
    refine (HBR.out _ (HR.out.grown HG0.out) (HV.out.grown HG0.out)).mono ?_
    rintro e w1 ⟨rfl, g1⟩
    have HG1 := Lib.hid (grownBy_trans HG0.out g1)
    clear g1 x0 x1 x2 x3 x4
    go_wp2_with fail
    go_ret
    exact ⟨rfl, HG1.out⟩
end Go.Proofs.YtioahjdojgcfdaaDoor

namespace Go.Proofs.YtioahjdojgcfdaaDoor
open Go.RowKit
attribute [local irreducible] shaL

set_option maxRecDepth 100000 in
set_option maxHeartbeats 3200000 in
theorem hnext_any (h x : HdrS) (hh : h.small) (hx : x.small) (v u : Value) (w : World) (hv : StrsAt w v h.L) (hu : StrsAt w u x.L) (hr : ShaReady w) :
    Calls Tryd.prog 26 #[h.val v, x.val u] w fun e w' => e = .returned (.int .i64 (h.next x)) ∧ w.grownBy w' none := by
  obtain ⟨a, cap, rfl⟩ := hv.form
  obtain ⟨a2, cap2, rfl⟩ := hu.form
  have HCK := Lib.hid (fun w' q => hcheck_any x hx (.slice a2 x.L.length cap2) w' q)
  have HDG := Lib.hid (fun w' q r => hdigest_any h hh (.slice a h.L.length cap) w' q r)
  obtain ⟨G, hG⟩ : ∃ G, h.next x = G := ⟨_, rfl⟩
  rw [hG]
  unfold HdrS.next at hG
  have hxe := hx.e
  have hhe := hh.e
  have hds := HdrS.dig_le h
  obtain ⟨D, hD⟩ : ∃ D, h.dig = D := ⟨_, rfl⟩
  rw [hD] at hG HDG hds
  clear hD
  obtain ⟨e, p, d, au, L⟩ := x
  obtain ⟨he, hp, hd, ha, hL⟩ := h
  unfold HdrS.val at HCK HDG ⊢
  generalize (⟨e, p, d, au, L⟩ : HdrS).err = z at HCK hG
  have hG : (if z ≠ 0 then z else if e = 0 ∨ e - 1 ≠ he then 14 else if p ≠ D then 15 else if d ≠ hd ∨ au < ha then 22 else 0) = G := hG
  have G0 : z ≠ 0 → G = z := fun h => by rw [← hG, if_pos h]
  have G1 : z = 0 → (e = 0 ∨ e - 1 ≠ he) → G = 14 := fun h h1 => by rw [← hG, if_neg (not_not_intro h), if_pos h1]
  have G2 : z = 0 → ¬ (e = 0 ∨ e - 1 ≠ he) → p ≠ D → G = 15 := fun h h1 h2 => by rw [← hG, if_neg (not_not_intro h), if_neg h1, if_pos h2]
  have G3 : z = 0 → ¬ (e = 0 ∨ e - 1 ≠ he) → p = D → (d ≠ hd ∨ au < ha) → G = 22 := fun h h1 h2 h3 => by rw [← hG, if_neg (not_not_intro h), if_neg h1, if_neg (not_not_intro h2), if_pos h3]
  have G4 : z = 0 → ¬ (e = 0 ∨ e - 1 ≠ he) → p = D → ¬ (d ≠ hd ∨ au < ha) → G = 0 := fun h h1 h2 h3 => by rw [← hG, if_neg (not_not_intro h), if_neg h1, if_neg (not_not_intro h2), if_neg h3]
  clear hG
  have HGS := Lib.hid (And.intro G2 (And.intro G3 G4))
  clear G2 G3 G4
  have hv : StrsAt w (.slice a hL.length cap) hL := hv
  have hu : StrsAt w (.slice a2 L.length cap2) L := hu
  have hxe : e ≤ 18446744073709551615 := hxe
  have hhe : he ≤ 18446744073709551615 := hhe
  have HCK : Hid (∀ w', StrsAt w' (.slice a2 L.length cap2) L → Calls Tryd.prog 74 #[.agg #[.int .u64 e, .string p, .int .i64 d, .int .i64 au, .slice a2 L.length cap2]] w' fun e w'' => e = .returned (.int .i64 z) ∧ w'.grownBy w'' none) := HCK
  have HDG : Hid (∀ w', StrsAt w' (.slice a hL.length cap) hL → ShaReady w' → Calls Tryd.prog 70 #[.agg #[.int .u64 he, .string hp, .int .i64 hd, .int .i64 ha, .slice a hL.length cap]] w' fun e w'' => e = .returned (.string D) ∧ w'.grownBy w'' none) := HDG
  simp only
  have HV := Lib.hid hv
  have HU := Lib.hid hu
  have HR := Lib.hid hr
  have hb0 := heap_alloc_at w (.cells #[.int .u64 he, .string hp, .int .i64 hd, .int .i64 ha, .slice a hL.length cap] 63) _ rfl
  have hg0 : w.grownBy (w.alloc (.cells #[.int .u64 he, .string hp, .int .i64 hd, .int .i64 ha, .slice a hL.length cap] 63)) none := World.grownBy_alloc _ _ _
  obtain ⟨W0, hW0⟩ : ∃ W0, w.alloc (.cells #[.int .u64 he, .string hp, .int .i64 hd, .int .i64 ha, .slice a hL.length cap] 63) = W0 := ⟨_, rfl⟩
  obtain ⟨XB, hXB⟩ : ∃ XB, w.heap.size = XB := ⟨_, rfl⟩
  rw [hW0] at hb0 hg0
  rw [hXB] at hb0
  have hb1 := heap_alloc_at W0 (.cells #[.int .u64 e, .string p, .int .i64 d, .int .i64 au, .slice a2 L.length cap2] 63) _ rfl
  have hg1 : W0.grownBy (W0.alloc (.cells #[.int .u64 e, .string p, .int .i64 d, .int .i64 au, .slice a2 L.length cap2] 63)) none := World.grownBy_alloc _ _ _
  obtain ⟨W1, hW1⟩ : ∃ W1, W0.alloc (.cells #[.int .u64 e, .string p, .int .i64 d, .int .i64 au, .slice a2 L.length cap2] 63) = W1 := ⟨_, rfl⟩
  have hYB : W0.heap.size = XB + 1 := by rw [← hW0, World.size_alloc, hXB]
  rw [hW1] at hb1 hg1
  rw [hYB] at hb1
  have HB1 := Lib.hid (And.intro (hg1.heap hb0 (by simp)) hb1)
  obtain ⟨x0, x1, x2, x3, x4⟩ := cells5 HB1.out.1
  obtain ⟨y0, y1, y2, y3, y4⟩ := cells5 HB1.out.2
  have HG1 := Lib.hid (grownBy_trans hg0 hg1)
  have HW := Lib.hid (And.intro hW0 (And.intro hXB (And.intro hW1 hYB)))
  clear hb0 hg0 hW0 hXB hb1 hg1 hW1 hYB hv hu hr hx hh
  by_cases hz : z = 0
  · have q1 : (z != 0) = false := by simp [hz]
    have q2 : (z == 0) = true := by simp [hz]
    have HZ := Lib.hid hz
    by_cases he0 : e = 0
    · have r1 : ((e : Int) == 0) = true := by simp [he0]
      have hG := G1 hz (Or.inl he0)
      subst hG
      clear he0 HDG hds hz HZ G0 G1 HGS
      go_enter Tryd.func26, Tryd.ntmps26
      go_wp2_with (first | rw [HW.out.1, HW.out.2.2.2] | rw [HW.out.1, HW.out.2.1] | rw [HW.out.2.2.1, HW.out.2.2.2] | rw [HW.out.2.2.1] | rw [HW.out.1])
      refine (HCK.out _ (HU.out.grown HG1.out)).mono ?_
      rintro e w2 ⟨rfl, g2⟩
      have HB2 := Lib.hid (And.intro (g2.heap HB1.out.1 (by simp)) (g2.heap HB1.out.2 (by simp)))
      have HG2 := Lib.hid (grownBy_trans HG1.out g2)
      clear g2 x0 x1 x2 x3 x4 y0 y1 y2 y3 y4 HB1
      obtain ⟨x0, x1, x2, x3, x4⟩ := cells5 HB2.out.1
      obtain ⟨y0, y1, y2, y3, y4⟩ := cells5 HB2.out.2
      go_wp2_with fail
      go_ret
      exact ⟨rfl, HG2.out⟩
    · have r1 : ((e : Int) == 0) = false := by rw [beq_eq_false_iff_ne]; omega
      have r2 : IntKind.u64.wrap ((e : Int) - 1) = (e : Int) - 1 := IntWalk.u64_in _ (by omega)
      by_cases he1 : e - 1 = he
      · have r3 : ((e : Int) - 1 != (he : Int)) = false := by simp; omega
        have r3' : ((e : Int) - 1 == (he : Int)) = true := by simp; omega
        have HE01 : Hid (¬ (e = 0 ∨ e - 1 ≠ he)) := Lib.hid (by omega)
        clear he0 he1 hz G0 G1
        go_enter Tryd.func26, Tryd.ntmps26
        go_wp2_with (first | rw [HW.out.1, HW.out.2.2.2] | rw [HW.out.1, HW.out.2.1] | rw [HW.out.2.2.1, HW.out.2.2.2] | rw [HW.out.2.2.1] | rw [HW.out.1])
        refine (HCK.out _ (HU.out.grown HG1.out)).mono ?_
        rintro e w2 ⟨rfl, g2⟩
        have HB2 := Lib.hid (And.intro (g2.heap HB1.out.1 (by simp)) (g2.heap HB1.out.2 (by simp)))
        have HG2 := Lib.hid (grownBy_trans HG1.out g2)
        clear g2 x0 x1 x2 x3 x4 y0 y1 y2 y3 y4 HB1
        obtain ⟨x0, x1, x2, x3, x4⟩ := cells5 HB2.out.1
        obtain ⟨y0, y1, y2, y3, y4⟩ := cells5 HB2.out.2
        have HDD : Hid (Calls Tryd.prog 70 #[.agg #[.int .u64 he, .string hp, .int .i64 hd, .int .i64 ha, .slice a hL.length cap]] w2.drew fun e w' => e = .returned (.string D) ∧ w2.grownBy w' none) := Lib.hid ((HDG.out _ (HV.out.grown (grownBy_drew HG2.out)) (HR.out.grown (grownBy_drew HG2.out))).mono (by rintro e w' ⟨rfl, q⟩; exact ⟨rfl, grownBy_trans (grownBy_drew (World.grownBy.refl w2 none)) q⟩))
        have HCK2 : Hid (∀ w' : World, w2.grownBy w' none → (w'.cell? ⟨XB, 0, none⟩ = some (.int .u64 he) ∧ w'.cell? ⟨XB, 1, none⟩ = some (.string hp) ∧ w'.cell? ⟨XB, 2, none⟩ = some (.int .i64 hd) ∧ w'.cell? ⟨XB, 3, none⟩ = some (.int .i64 ha) ∧ w'.cell? ⟨XB, 4, none⟩ = some (.slice a hL.length cap)) ∧ w'.cell? ⟨XB + 1, 0, none⟩ = some (.int .u64 e) ∧ w'.cell? ⟨XB + 1, 1, none⟩ = some (.string p) ∧ w'.cell? ⟨XB + 1, 2, none⟩ = some (.int .i64 d) ∧ w'.cell? ⟨XB + 1, 3, none⟩ = some (.int .i64 au) ∧ w'.cell? ⟨XB + 1, 4, none⟩ = some (.slice a2 L.length cap2)) := Lib.hid (fun w' q => ⟨cells5 (q.heap HB2.out.1 (by simp)), cells5 (q.heap HB2.out.2 (by simp))⟩)
        have HRF : Hid (w2.grownBy w2.drew none) := Lib.hid (grownBy_drew (World.grownBy.refl w2 none))
        clear HDG HB2
        by_cases hpD : p = D
        · have p1 : (p.toList == D.toList) = true := by rw [eq_strE]; simpa using hpD
          have p2 : (p.toList != D.toList) = false := by rw [bne, p1]; rfl
          have G3 := HGS.out.2.1 HZ.out HE01.out hpD
          have G4 := HGS.out.2.2 HZ.out HE01.out hpD
          clear hpD
          go_wp2_with fail
          go_region_held3 (fun w' => (w'.cell? ⟨XB, 0, none⟩ = some (.int .u64 he) ∧ w'.cell? ⟨XB, 1, none⟩ = some (.string hp) ∧ w'.cell? ⟨XB, 2, none⟩ = some (.int .i64 hd) ∧ w'.cell? ⟨XB, 3, none⟩ = some (.int .i64 ha) ∧ w'.cell? ⟨XB, 4, none⟩ = some (.slice a hL.length cap)) ∧ w'.cell? ⟨XB + 1, 0, none⟩ = some (.int .u64 e) ∧ w'.cell? ⟨XB + 1, 1, none⟩ = some (.string p) ∧ w'.cell? ⟨XB + 1, 2, none⟩ = some (.int .i64 d) ∧ w'.cell? ⟨XB + 1, 3, none⟩ = some (.int .i64 au) ∧ w'.cell? ⟨XB + 1, 4, none⟩ = some (.slice a2 L.length cap2)) (first | with_reducible exact HCK2.out _ ckd | with_reducible exact HCK2.out _ HRF.out)
            (first
            | (go_at_call 70; (with_reducible refine HDD.out.mono ?_); rintro e w3 ⟨rfl, ckd⟩))
          have HG3 := Lib.hid (grownBy_trans HG2.out ckd)
          obtain ⟨⟨x0, x1, x2, x3, x4⟩, y0, y1, y2, y3, y4⟩ := HCK2.out _ ckd
          clear ckd
          by_cases hdd : d = hd
          · have s1 : (d != hd) = false := by simp [hdd]
            have s1' : (d == hd) = true := by simp [hdd]
            by_cases haa : au < ha
            · have hG := G3 (Or.inr haa)
              subst hG
              clear hdd G3 G4
              go_wp2_with fail
              go_ret
              exact ⟨rfl, HG3.out⟩
            · have hG := G4 (by omega)
              subst hG
              clear hdd G3 G4
              go_wp2_with fail
              go_ret
              exact ⟨rfl, HG3.out⟩
          · have s1 : (d != hd) = true := by simp [hdd]
            have s1' : (d == hd) = false := by simp [hdd]
            have hG := G3 (Or.inl hdd)
            subst hG
            clear hdd G3 G4
            go_wp2_with fail
            go_ret
            exact ⟨rfl, HG3.out⟩
        · have p1 : (p.toList == D.toList) = false := by rw [eq_strE]; simpa using hpD
          have p2 : (p.toList != D.toList) = true := by rw [bne, p1]; rfl
          have hG := HGS.out.1 HZ.out HE01.out hpD
          subst hG
          clear hpD
          go_wp2_with fail
          go_region_held3 (fun w' => (w'.cell? ⟨XB, 0, none⟩ = some (.int .u64 he) ∧ w'.cell? ⟨XB, 1, none⟩ = some (.string hp) ∧ w'.cell? ⟨XB, 2, none⟩ = some (.int .i64 hd) ∧ w'.cell? ⟨XB, 3, none⟩ = some (.int .i64 ha) ∧ w'.cell? ⟨XB, 4, none⟩ = some (.slice a hL.length cap)) ∧ w'.cell? ⟨XB + 1, 0, none⟩ = some (.int .u64 e) ∧ w'.cell? ⟨XB + 1, 1, none⟩ = some (.string p) ∧ w'.cell? ⟨XB + 1, 2, none⟩ = some (.int .i64 d) ∧ w'.cell? ⟨XB + 1, 3, none⟩ = some (.int .i64 au) ∧ w'.cell? ⟨XB + 1, 4, none⟩ = some (.slice a2 L.length cap2)) (first | with_reducible exact HCK2.out _ ckd | with_reducible exact HCK2.out _ HRF.out)
            (first
            | (go_at_call 70; (with_reducible refine HDD.out.mono ?_); rintro e w3 ⟨rfl, ckd⟩))
          have HG3 := Lib.hid (grownBy_trans HG2.out ckd)
          obtain ⟨⟨x0, x1, x2, x3, x4⟩, y0, y1, y2, y3, y4⟩ := HCK2.out _ ckd
          clear ckd
          go_wp2_with fail
          go_ret
          exact ⟨rfl, HG3.out⟩
      · have r3 : ((e : Int) - 1 != (he : Int)) = true := by simp; omega
        have r3' : ((e : Int) - 1 == (he : Int)) = false := by rw [beq_eq_false_iff_ne]; omega
        have hG := G1 hz (Or.inr he1)
        subst hG
        clear he0 he1 HDG hds hz HZ G0 G1 HGS
        go_enter Tryd.func26, Tryd.ntmps26
        go_wp2_with (first | rw [HW.out.1, HW.out.2.2.2] | rw [HW.out.1, HW.out.2.1] | rw [HW.out.2.2.1, HW.out.2.2.2] | rw [HW.out.2.2.1] | rw [HW.out.1])
        refine (HCK.out _ (HU.out.grown HG1.out)).mono ?_
        rintro e w2 ⟨rfl, g2⟩
        have HB2 := Lib.hid (And.intro (g2.heap HB1.out.1 (by simp)) (g2.heap HB1.out.2 (by simp)))
        have HG2 := Lib.hid (grownBy_trans HG1.out g2)
        clear g2 x0 x1 x2 x3 x4 y0 y1 y2 y3 y4 HB1
        obtain ⟨x0, x1, x2, x3, x4⟩ := cells5 HB2.out.1
        obtain ⟨y0, y1, y2, y3, y4⟩ := cells5 HB2.out.2
        go_wp2_with fail
        go_ret
        exact ⟨rfl, HG2.out⟩
  · have q1 : (z != 0) = true := by simp [hz]
    have q2 : (z == 0) = false := by simp [hz]
    have hG := G0 hz
    subst hG
    clear hz HDG hds G0 G1 HGS
    go_enter Tryd.func26, Tryd.ntmps26
    go_wp2_with (first | rw [HW.out.1, HW.out.2.2.2] | rw [HW.out.1, HW.out.2.1] | rw [HW.out.2.2.1, HW.out.2.2.2] | rw [HW.out.2.2.1] | rw [HW.out.1])
    refine (HCK.out _ (HU.out.grown HG1.out)).mono ?_
    rintro e w2 ⟨rfl, g2⟩
    have HG2 := Lib.hid (grownBy_trans HG1.out g2)
    clear g2 x0 x1 x2 x3 x4 y0 y1 y2 y3 y4
    go_wp2_with fail
    go_ret
    exact ⟨rfl, HG2.out⟩

end Go.Proofs.YtioahjdojgcfdaaDoor
