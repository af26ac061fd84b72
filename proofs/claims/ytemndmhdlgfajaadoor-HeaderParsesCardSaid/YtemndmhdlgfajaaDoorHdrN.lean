/- The walks of header's Genesis, Next, Same and Root. -/
import Derived.Test.YtemndmhdlgfajaaDoorHdrE
import Derived.Test.YtemndmhdlgfajaaDoorHeaderParsesB6
import Derived.Deep.RegionWith
namespace Go.Proofs.YtemndmhdlgfajaaDoor
open Go.RowKit
attribute [local irreducible] shaL

theorem noughts_list : noughtsS.toList = [0, 0, 0, 0, 0, 0, 0, 0, 0, 0, 0, 0, 0, 0, 0, 0] := by rw [ByteArray.toList_eq]; rfl
set_option maxRecDepth 100000 in
set_option maxHeartbeats 1600000 in
theorem hgenesis_any (x : HdrS) (hx : x.small) (v : Value) (w : World) (hv : StrsAt w v x.L) :
    Calls Tryd.prog 20 #[x.val v] w fun e w' => e = .returned (.int .i64 x.gen) ∧ w.grownBy w' none := by
  obtain ⟨a, cap, rfl⟩ := hv.form
  have HCK := Lib.hid (fun w' q => hcheck_any x hx (.slice a x.L.length cap) w' q)
  obtain ⟨G, hG⟩ : ∃ G, x.gen = G := ⟨_, rfl⟩
  rw [hG]
  unfold HdrS.gen at hG
  have hxe := hx.e
  obtain ⟨e, p, d, au, L⟩ := x
  unfold HdrS.val at HCK ⊢
  have hv : StrsAt w (.slice a L.length cap) L := hv
  have hxe : e ≤ 18446744073709551615 := hxe
  generalize (⟨e, p, d, au, L⟩ : HdrS).err = z at HCK hG
  have hG : (if z ≠ 0 then z else if e ≠ 0 then 14 else if p ≠ noughtsS then 15 else 0) = G := hG
  have HCK : Hid (∀ w', StrsAt w' (.slice a L.length cap) L → Calls Tryd.prog 39 #[.agg #[.int .u64 e, .string p, .int .i64 d, .int .i64 au, .slice a L.length cap]] w' fun e w'' => e = .returned (.int .i64 z) ∧ w'.grownBy w'' none) := HCK
  simp only
  have HV := Lib.hid hv
  have hb0 := heap_alloc_at w (.cells #[.int .u64 e, .string p, .int .i64 d, .int .i64 au, .slice a L.length cap] 28) _ rfl
  have hg0 : w.grownBy (w.alloc (.cells #[.int .u64 e, .string p, .int .i64 d, .int .i64 au, .slice a L.length cap] 28)) none := World.grownBy_alloc _ _ _
  obtain ⟨W0, hW0⟩ : ∃ W0, w.alloc (.cells #[.int .u64 e, .string p, .int .i64 d, .int .i64 au, .slice a L.length cap] 28) = W0 := ⟨_, rfl⟩
  obtain ⟨XB, hXB⟩ : ∃ XB, w.heap.size = XB := ⟨_, rfl⟩
  rw [hW0] at hb0 hg0
  rw [hXB] at hb0
  obtain ⟨x0, x1, x2, x3, x4⟩ := cells5 hb0
  have HB0 := Lib.hid hb0
  have HG0 := Lib.hid hg0
  have HW := Lib.hid (And.intro hW0 hXB)
  clear hb0 hg0 hW0 hXB hv hx
  by_cases hz : z = 0
  · have q1 : (z != 0) = false := by simp [hz]
    have q2 : (z == 0) = true := by simp [hz]
    rw [if_neg (by omega)] at hG
    clear hz
    by_cases he : e = 0
    · have r1 : ((e : Int) != 0) = false := by simp [he]
      have r2 : ((e : Int) == 0) = true := by simp [he]
      rw [if_neg (by omega)] at hG
      have hnl := noughts_list
      by_cases hp : p = noughtsS
      · have p1 : (p.toList == [0, 0, 0, 0, 0, 0, 0, 0, 0, 0, 0, 0, 0, 0, 0, 0]) = true := by rw [← hnl, eq_strE]; simpa using hp
        have p2 : (p.toList != [0, 0, 0, 0, 0, 0, 0, 0, 0, 0, 0, 0, 0, 0, 0, 0]) = false := by rw [bne, p1]; rfl
        rw [if_neg (by rw [hp]; simp)] at hG
        subst hG
        clear hp he hnl
        go_enter Tryd.func20, Tryd.ntmps20
        go_wp2_with (rw [HW.out.1, HW.out.2])
        refine (HCK.out _ (HV.out.grown HG0.out)).mono ?_
        rintro e w1 ⟨rfl, g1⟩
        have hb1 := g1.heap HB0.out (by simp)
        have HG1 := Lib.hid (grownBy_trans HG0.out g1)
        clear g1 x0 x1 x2 x3 x4
        obtain ⟨x0, x1, x2, x3, x4⟩ := cells5 hb1
        clear hb1
        go_wp2_with fail
        go_ret
        exact ⟨rfl, HG1.out⟩
      · have p1 : (p.toList == [0, 0, 0, 0, 0, 0, 0, 0, 0, 0, 0, 0, 0, 0, 0, 0]) = false := by rw [← hnl, eq_strE]; simpa using hp
        have p2 : (p.toList != [0, 0, 0, 0, 0, 0, 0, 0, 0, 0, 0, 0, 0, 0, 0, 0]) = true := by rw [bne, p1]; rfl
        rw [if_pos hp] at hG
        subst hG
        clear hp he hnl
        go_enter Tryd.func20, Tryd.ntmps20
        go_wp2_with (rw [HW.out.1, HW.out.2])
        refine (HCK.out _ (HV.out.grown HG0.out)).mono ?_
        rintro e w1 ⟨rfl, g1⟩
        have hb1 := g1.heap HB0.out (by simp)
        have HG1 := Lib.hid (grownBy_trans HG0.out g1)
        clear g1 x0 x1 x2 x3 x4
        obtain ⟨x0, x1, x2, x3, x4⟩ := cells5 hb1
        clear hb1
        go_wp2_with fail
        go_ret
        exact ⟨rfl, HG1.out⟩
    · have r1 : ((e : Int) != 0) = true := by simp; omega
      have r2 : ((e : Int) == 0) = false := by rw [beq_eq_false_iff_ne]; omega
      rw [if_pos he] at hG
      subst hG
      clear he
      go_enter Tryd.func20, Tryd.ntmps20
      go_wp2_with (rw [HW.out.1, HW.out.2])
      refine (HCK.out _ (HV.out.grown HG0.out)).mono ?_
      rintro e w1 ⟨rfl, g1⟩
      have hb1 := g1.heap HB0.out (by simp)
      have HG1 := Lib.hid (grownBy_trans HG0.out g1)
      clear g1 x0 x1 x2 x3 x4
      obtain ⟨x0, x1, x2, x3, x4⟩ := cells5 hb1
      clear hb1
      go_wp2_with fail
      go_ret
      exact ⟨rfl, HG1.out⟩
  · have q1 : (z != 0) = true := by simp [hz]
    have q2 : (z == 0) = false := by simp [hz]
    rw [if_pos hz] at hG
    subst hG
    clear hz
    go_enter Tryd.func20, Tryd.ntmps20
    go_wp2_with (rw [HW.out.1, HW.out.2])
    refine (HCK.out _ (HV.out.grown HG0.out)).mono ?_
    rintro e w1 ⟨rfl, g1⟩
    have HG1 := Lib.hid (grownBy_trans HG0.out g1)
    clear g1 x0 x1 x2 x3 x4
    go_wp2_with fail
    go_ret
    exact ⟨rfl, HG1.out⟩

/-- the root that a header's nodes make -/
def HdrS.root (x : HdrS) : ByteArray := if (0 ≤ x.d ∧ x.d ≤ 4) ∧ x.L.length = 2 ^ x.d.toNat then rootJ x.d.toNat x.L else ⟨#[]⟩
def HdrS.rootE (x : HdrS) : Int := if 0 ≤ x.d ∧ x.d ≤ 4 then if x.L.length = 2 ^ x.d.toNat then 0 else 22 else 1
theorem broot_hdr (x : HdrS) (hs : ∀ s ∈ x.L, s.size ≤ 1000) (a : Option Addr) (n cap : Nat) (w : World) (hr : ShaReady w) (hv : StrsAt w (.slice a n cap) x.L) (hn : x.L.length = n) (hcap : n ≤ cap) :
    Calls Tryd.prog 16 #[.slice a n cap, .int .i64 x.d] w fun e w' => e = .returned (.tuple #[.string x.root, .int .i64 x.rootE]) ∧ w.grownBy w' none := by
  unfold HdrS.root HdrS.rootE
  by_cases hd : 0 ≤ x.d ∧ x.d ≤ 4
  · obtain ⟨k, hk⟩ := Int.eq_ofNat_of_zero_le hd.1
    rw [if_pos hd]
    rw [hk] at hd ⊢
    have e1 : ((k : Int)).toNat = k := rfl
    rw [e1]
    by_cases hl : x.L.length = 2 ^ k
    · rw [if_pos ⟨hd, hl⟩, if_pos hl]
      have hn2 : n = 2 ^ k := by omega
      rw [hn2] at hv hcap ⊢
      exact broot_all a cap x.L k w hr hv hl hcap hs (by omega)
    · rw [if_neg (fun q => hl q.2), if_neg hl]
      exact (broot_many a n cap k (by omega) (by omega) w).mono (fun e w' h => ⟨h.1, by rw [← h.2]; exact World.grownBy.refl _ _⟩)
  · rw [if_neg hd, if_neg (fun q => hd q.1)]
    exact (broot_out _ x.d (by omega) w).mono (fun e w' h => ⟨h.1, by rw [← h.2]; exact World.grownBy.refl _ _⟩)
theorem HdrS.rootE_root (x : HdrS) : x.rootE ≠ 0 → x.root = ⟨#[]⟩ := by
  unfold HdrS.root HdrS.rootE
  intro h
  split at h
  · split at h
    · omega
    · rename_i q
      rw [if_neg (fun r => q r.2)]
  · rename_i q
    rw [if_neg (fun r => q r.1)]
set_option maxRecDepth 100000 in
set_option maxHeartbeats 1600000 in
theorem hroot_any (x : HdrS) (hs : ∀ s ∈ x.L, s.size ≤ 1000) (a : Option Addr) (n cap : Nat) (w : World) (hr : ShaReady w) (hv : StrsAt w (.slice a n cap) x.L) (hn : x.L.length = n) (hcap : n ≤ cap) :
    Calls Tryd.prog 17 #[x.val (.slice a n cap)] w fun e w' => e = .returned (.string x.root) ∧ w.grownBy w' none := by
  have HBR := Lib.hid (fun w' q1 q2 => broot_hdr x hs a n cap w' q1 q2 hn hcap)
  have hre := HdrS.rootE_root x
  unfold HdrS.val
  obtain ⟨e, p, d, au, L⟩ := x
  generalize (⟨e, p, d, au, L⟩ : HdrS).root = R at HBR hre ⊢
  generalize (⟨e, p, d, au, L⟩ : HdrS).rootE = z at HBR hre
  have HBR : Hid (∀ w', ShaReady w' → StrsAt w' (.slice a n cap) L → Calls Tryd.prog 16 #[.slice a n cap, .int .i64 d] w' fun e w'' => e = .returned (.tuple #[.string R, .int .i64 z]) ∧ w'.grownBy w'' none) := HBR
  simp only
  have hv : StrsAt w (.slice a n cap) L := hv
  have HV := Lib.hid hv
  have HR := Lib.hid hr
  have hb0 := heap_alloc_at w (.cells #[.int .u64 e, .string p, .int .i64 d, .int .i64 au, .slice a n cap] 28) _ rfl
  have hg0 : w.grownBy (w.alloc (.cells #[.int .u64 e, .string p, .int .i64 d, .int .i64 au, .slice a n cap] 28)) none := World.grownBy_alloc _ _ _
  obtain ⟨W0, hW0⟩ : ∃ W0, w.alloc (.cells #[.int .u64 e, .string p, .int .i64 d, .int .i64 au, .slice a n cap] 28) = W0 := ⟨_, rfl⟩
  obtain ⟨XB, hXB⟩ : ∃ XB, w.heap.size = XB := ⟨_, rfl⟩
  rw [hW0] at hb0 hg0
  rw [hXB] at hb0
  obtain ⟨x0, x1, x2, x3, x4⟩ := cells5 hb0
  have HG0 := Lib.hid hg0
  have HW := Lib.hid (And.intro hW0 hXB)
  clear hb0 hg0 hW0 hXB hv hr hs
  by_cases hz : z = 0
  · have q1 : (z != 0) = false := by simp [hz]
    have q2 : (z == 0) = true := by simp [hz]
    clear hz hre
    go_enter Tryd.func17, Tryd.ntmps17
    go_wp2_with (rw [HW.out.1, HW.out.2])
    refine (HBR.out _ (HR.out.grown HG0.out) (HV.out.grown HG0.out)).mono ?_
    rintro e w1 ⟨rfl, g1⟩
    have HG1 := Lib.hid (grownBy_trans HG0.out g1)
    clear g1 x0 x1 x2 x3 x4
    go_wp2_with fail
    go_ret
    exact ⟨rfl, HG1.out⟩
  · have q1 : (z != 0) = true := by simp [hz]
    have q2 : (z == 0) = false := by simp [hz]
    have h0 := hre hz
    subst h0
    clear hz hre
    go_enter Tryd.func17, Tryd.ntmps17
    go_wp2_with (rw [HW.out.1, HW.out.2])
    refine (HBR.out _ (HR.out.grown HG0.out) (HV.out.grown HG0.out)).mono ?_
    rintro e w1 ⟨rfl, g1⟩
    have HG1 := Lib.hid (grownBy_trans HG0.out g1)
    clear g1 x0 x1 x2 x3 x4
    go_wp2_with fail
    go_ret
    exact ⟨rfl, HG1.out⟩
end Go.Proofs.YtemndmhdlgfajaaDoor
