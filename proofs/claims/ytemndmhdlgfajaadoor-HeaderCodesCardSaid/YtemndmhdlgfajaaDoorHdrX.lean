/- The walks of header's Next and Same. -/
import Derived.Test.YtemndmhdlgfajaaDoorHeaderCodesB7
namespace Go.Proofs.YtemndmhdlgfajaaDoor
open Go.RowKit
attribute [local irreducible] shaL

set_option maxRecDepth 100000 in
set_option maxHeartbeats 3200000 in
theorem hnext_any (h x : HdrS) (hh : h.small) (hx : x.small) (v u : Value) (w : World) (hv : StrsAt w v h.L) (hu : StrsAt w u x.L) (hr : ShaReady w) :
    Calls Tryd.prog 19 #[h.val v, x.val u] w fun e w' => e = .returned (.int .i64 (h.next x)) ∧ w.grownBy w' none := by
  obtain ⟨a, cap, rfl⟩ := hv.form
  obtain ⟨a2, cap2, rfl⟩ := hu.form
  have HCK := Lib.hid (fun w' q => hcheck_any x hx (.slice a2 x.L.length cap2) w' q)
  have HDG := Lib.hid (fun w' q r => hdigest_any h hh (.slice a h.L.length cap) w' q r)
  obtain ⟨G, hG⟩ : ∃ G, h.next x = G := ⟨_, rfl⟩
  rw [hG]
  unfold HdrS.next at hG
  have hxe := hx.e
  have hhe := hh.e
  have hds := HdrS.dig_le h
  obtain ⟨D, hD⟩ : ∃ D, h.dig = D := ⟨_, rfl⟩
  rw [hD] at hG HDG hds
  clear hD
  obtain ⟨e, p, d, au, L⟩ := x
  obtain ⟨he, hp, hd, ha, hL⟩ := h
  unfold HdrS.val at HCK HDG ⊢
  generalize (⟨e, p, d, au, L⟩ : HdrS).err = z at HCK hG
  have hG : (if z ≠ 0 then z else if e = 0 ∨ e - 1 ≠ he then 14 else if p ≠ D then 15 else if d ≠ hd ∨ au < ha then 22 else 0) = G := hG
  have G0 : z ≠ 0 → G = z := fun h => by rw [← hG, if_pos h]
  have G1 : z = 0 → (e = 0 ∨ e - 1 ≠ he) → G = 14 := fun h h1 => by rw [← hG, if_neg (not_not_intro h), if_pos h1]
  have G2 : z = 0 → ¬ (e = 0 ∨ e - 1 ≠ he) → p ≠ D → G = 15 := fun h h1 h2 => by rw [← hG, if_neg (not_not_intro h), if_neg h1, if_pos h2]
  have G3 : z = 0 → ¬ (e = 0 ∨ e - 1 ≠ he) → p = D → (d ≠ hd ∨ au < ha) → G = 22 := fun h h1 h2 h3 => by rw [← hG, if_neg (not_not_intro h), if_neg h1, if_neg (not_not_intro h2), if_pos h3]
  have G4 : z = 0 → ¬ (e = 0 ∨ e - 1 ≠ he) → p = D → ¬ (d ≠ hd ∨ au < ha) → G = 0 := fun h h1 h2 h3 => by rw [← hG, if_neg (not_not_intro h), if_neg h1, if_neg (not_not_intro h2), if_neg h3]
  clear hG
  have HGS := Lib.hid (And.intro G2 (And.intro G3 G4))
  clear G2 G3 G4
  have hv : StrsAt w (.slice a hL.length cap) hL := hv
  have hu : StrsAt w (.slice a2 L.length cap2) L := hu
  have hxe : e ≤ 18446744073709551615 := hxe
  have hhe : he ≤ 18446744073709551615 := hhe
  have HCK : Hid (∀ w', StrsAt w' (.slice a2 L.length cap2) L → Calls Tryd.prog 39 #[.agg #[.int .u64 e, .string p, .int .i64 d, .int .i64 au, .slice a2 L.length cap2]] w' fun e w'' => e = .returned (.int .i64 z) ∧ w'.grownBy w'' none) := HCK
  have HDG : Hid (∀ w', StrsAt w' (.slice a hL.length cap) hL → ShaReady w' → Calls Tryd.prog 13 #[.agg #[.int .u64 he, .string hp, .int .i64 hd, .int .i64 ha, .slice a hL.length cap]] w' fun e w'' => e = .returned (.string D) ∧ w'.grownBy w'' none) := HDG
  simp only
  have HV := Lib.hid hv
  have HU := Lib.hid hu
  have HR := Lib.hid hr
  have hb0 := heap_alloc_at w (.cells #[.int .u64 he, .string hp, .int .i64 hd, .int .i64 ha, .slice a hL.length cap] 28) _ rfl
  have hg0 : w.grownBy (w.alloc (.cells #[.int .u64 he, .string hp, .int .i64 hd, .int .i64 ha, .slice a hL.length cap] 28)) none := World.grownBy_alloc _ _ _
  obtain ⟨W0, hW0⟩ : ∃ W0, w.alloc (.cells #[.int .u64 he, .string hp, .int .i64 hd, .int .i64 ha, .slice a hL.length cap] 28) = W0 := ⟨_, rfl⟩
  obtain ⟨XB, hXB⟩ : ∃ XB, w.heap.size = XB := ⟨_, rfl⟩
  rw [hW0] at hb0 hg0
  rw [hXB] at hb0
  have hb1 := heap_alloc_at W0 (.cells #[.int .u64 e, .string p, .int .i64 d, .int .i64 au, .slice a2 L.length cap2] 28) _ rfl
  have hg1 : W0.grownBy (W0.alloc (.cells #[.int .u64 e, .string p, .int .i64 d, .int .i64 au, .slice a2 L.length cap2] 28)) none := World.grownBy_alloc _ _ _
  obtain ⟨W1, hW1⟩ : ∃ W1, W0.alloc (.cells #[.int .u64 e, .string p, .int .i64 d, .int .i64 au, .slice a2 L.length cap2] 28) = W1 := ⟨_, rfl⟩
  have hYB : W0.heap.size = XB + 1 := by rw [← hW0, World.size_alloc, hXB]
  rw [hW1] at hb1 hg1
  rw [hYB] at hb1
  have HB1 := Lib.hid (And.intro (hg1.heap hb0 (by simp)) hb1)
  obtain ⟨x0, x1, x2, x3, x4⟩ := cells5 HB1.out.1
  obtain ⟨y0, y1, y2, y3, y4⟩ := cells5 HB1.out.2
  have HG1 := Lib.hid (grownBy_trans hg0 hg1)
  have HW := Lib.hid (And.intro hW0 (And.intro hXB (And.intro hW1 hYB)))
  clear hb0 hg0 hW0 hXB hb1 hg1 hW1 hYB hv hu hr hx hh
  by_cases hz : z = 0
  · have q1 : (z != 0) = false := by simp [hz]
    have q2 : (z == 0) = true := by simp [hz]
    have HZ := Lib.hid hz
    by_cases he0 : e = 0
    · have r1 : ((e : Int) == 0) = true := by simp [he0]
      have hG := G1 hz (Or.inl he0)
      subst hG
      clear he0 HDG hds hz HZ G0 G1 HGS
      go_enter Tryd.func19, Tryd.ntmps19
      go_wp2_with (first | rw [HW.out.1, HW.out.2.2.2] | rw [HW.out.1, HW.out.2.1] | rw [HW.out.2.2.1, HW.out.2.2.2] | rw [HW.out.2.2.1] | rw [HW.out.1])
      refine (HCK.out _ (HU.out.grown HG1.out)).mono ?_
      rintro e w2 ⟨rfl, g2⟩
      have HB2 := Lib.hid (And.intro (g2.heap HB1.out.1 (by simp)) (g2.heap HB1.out.2 (by simp)))
      have HG2 := Lib.hid (grownBy_trans HG1.out g2)
      clear g2 x0 x1 x2 x3 x4 y0 y1 y2 y3 y4 HB1
      obtain ⟨x0, x1, x2, x3, x4⟩ := cells5 HB2.out.1
      obtain ⟨y0, y1, y2, y3, y4⟩ := cells5 HB2.out.2
      go_wp2_with fail
      go_ret
      exact ⟨rfl, HG2.out⟩
    · have r1 : ((e : Int) == 0) = false := by rw [beq_eq_false_iff_ne]; omega
      have r2 : IntKind.u64.wrap ((e : Int) - 1) = (e : Int) - 1 := IntWalk.u64_in _ (by omega)
      by_cases he1 : e - 1 = he
      · have r3 : ((e : Int) - 1 != (he : Int)) = false := by simp; omega
        have r3' : ((e : Int) - 1 == (he : Int)) = true := by simp; omega
        have HE01 : Hid (¬ (e = 0 ∨ e - 1 ≠ he)) := Lib.hid (by omega)
        clear he0 he1 hz G0 G1
        go_enter Tryd.func19, Tryd.ntmps19
        go_wp2_with (first | rw [HW.out.1, HW.out.2.2.2] | rw [HW.out.1, HW.out.2.1] | rw [HW.out.2.2.1, HW.out.2.2.2] | rw [HW.out.2.2.1] | rw [HW.out.1])
        refine (HCK.out _ (HU.out.grown HG1.out)).mono ?_
        rintro e w2 ⟨rfl, g2⟩
        have HB2 := Lib.hid (And.intro (g2.heap HB1.out.1 (by simp)) (g2.heap HB1.out.2 (by simp)))
        have HG2 := Lib.hid (grownBy_trans HG1.out g2)
        clear g2 x0 x1 x2 x3 x4 y0 y1 y2 y3 y4 HB1
        obtain ⟨x0, x1, x2, x3, x4⟩ := cells5 HB2.out.1
        obtain ⟨y0, y1, y2, y3, y4⟩ := cells5 HB2.out.2
        have HDD : Hid (Calls Tryd.prog 13 #[.agg #[.int .u64 he, .string hp, .int .i64 hd, .int .i64 ha, .slice a hL.length cap]] w2.drew fun e w' => e = .returned (.string D) ∧ w2.grownBy w' none) := Lib.hid ((HDG.out _ (HV.out.grown (grownBy_drew HG2.out)) (HR.out.grown (grownBy_drew HG2.out))).mono (by rintro e w' ⟨rfl, q⟩; exact ⟨rfl, grownBy_trans (grownBy_drew (World.grownBy.refl w2 none)) q⟩))
        have HCK2 : Hid (∀ w' : World, w2.grownBy w' none → (w'.cell? ⟨XB, 0, none⟩ = some (.int .u64 he) ∧ w'.cell? ⟨XB, 1, none⟩ = some (.string hp) ∧ w'.cell? ⟨XB, 2, none⟩ = some (.int .i64 hd) ∧ w'.cell? ⟨XB, 3, none⟩ = some (.int .i64 ha) ∧ w'.cell? ⟨XB, 4, none⟩ = some (.slice a hL.length cap)) ∧ w'.cell? ⟨XB + 1, 0, none⟩ = some (.int .u64 e) ∧ w'.cell? ⟨XB + 1, 1, none⟩ = some (.string p) ∧ w'.cell? ⟨XB + 1, 2, none⟩ = some (.int .i64 d) ∧ w'.cell? ⟨XB + 1, 3, none⟩ = some (.int .i64 au) ∧ w'.cell? ⟨XB + 1, 4, none⟩ = some (.slice a2 L.length cap2)) := Lib.hid (fun w' q => ⟨cells5 (q.heap HB2.out.1 (by simp)), cells5 (q.heap HB2.out.2 (by simp))⟩)
        have HRF : Hid (w2.grownBy w2.drew none) := Lib.hid (grownBy_drew (World.grownBy.refl w2 none))
        clear HDG HB2
        by_cases hpD : p = D
        · have p1 : (p.toList == D.toList) = true := by rw [eq_strE]; simpa using hpD
          have p2 : (p.toList != D.toList) = false := by rw [bne, p1]; rfl
          have G3 := HGS.out.2.1 HZ.out HE01.out hpD
          have G4 := HGS.out.2.2 HZ.out HE01.out hpD
          clear hpD
          go_wp2_with fail
          go_region_held3 (fun w' => (w'.cell? ⟨XB, 0, none⟩ = some (.int .u64 he) ∧ w'.cell? ⟨XB, 1, none⟩ = some (.string hp) ∧ w'.cell? ⟨XB, 2, none⟩ = some (.int .i64 hd) ∧ w'.cell? ⟨XB, 3, none⟩ = some (.int .i64 ha) ∧ w'.cell? ⟨XB, 4, none⟩ = some (.slice a hL.length cap)) ∧ w'.cell? ⟨XB + 1, 0, none⟩ = some (.int .u64 e) ∧ w'.cell? ⟨XB + 1, 1, none⟩ = some (.string p) ∧ w'.cell? ⟨XB + 1, 2, none⟩ = some (.int .i64 d) ∧ w'.cell? ⟨XB + 1, 3, none⟩ = some (.int .i64 au) ∧ w'.cell? ⟨XB + 1, 4, none⟩ = some (.slice a2 L.length cap2)) (first | with_reducible exact HCK2.out _ ckd | with_reducible exact HCK2.out _ HRF.out)
            (first
            | (go_at_call 13; (with_reducible refine HDD.out.mono ?_); rintro e w3 ⟨rfl, ckd⟩))
          have HG3 := Lib.hid (grownBy_trans HG2.out ckd)
          obtain ⟨⟨x0, x1, x2, x3, x4⟩, y0, y1, y2, y3, y4⟩ := HCK2.out _ ckd
          clear ckd
          by_cases hdd : d = hd
          · have s1 : (d != hd) = false := by simp [hdd]
            have s1' : (d == hd) = true := by simp [hdd]
            by_cases haa : au < ha
            · have hG := G3 (Or.inr haa)
              subst hG
              clear hdd G3 G4
              go_wp2_with fail
              go_ret
              exact ⟨rfl, HG3.out⟩
            · have hG := G4 (by omega)
              subst hG
              clear hdd G3 G4
              go_wp2_with fail
              go_ret
              exact ⟨rfl, HG3.out⟩
          · have s1 : (d != hd) = true := by simp [hdd]
            have s1' : (d == hd) = false := by simp [hdd]
            have hG := G3 (Or.inl hdd)
            subst hG
            clear hdd G3 G4
            go_wp2_with fail
            go_ret
            exact ⟨rfl, HG3.out⟩
        · have p1 : (p.toList == D.toList) = false := by rw [eq_strE]; simpa using hpD
          have p2 : (p.toList != D.toList) = true := by rw [bne, p1]; rfl
          have hG := HGS.out.1 HZ.out HE01.out hpD
          subst hG
          clear hpD
          go_wp2_with fail
          go_region_held3 (fun w' => (w'.cell? ⟨XB, 0, none⟩ = some (.int .u64 he) ∧ w'.cell? ⟨XB, 1, none⟩ = some (.string hp) ∧ w'.cell? ⟨XB, 2, none⟩ = some (.int .i64 hd) ∧ w'.cell? ⟨XB, 3, none⟩ = some (.int .i64 ha) ∧ w'.cell? ⟨XB, 4, none⟩ = some (.slice a hL.length cap)) ∧ w'.cell? ⟨XB + 1, 0, none⟩ = some (.int .u64 e) ∧ w'.cell? ⟨XB + 1, 1, none⟩ = some (.string p) ∧ w'.cell? ⟨XB + 1, 2, none⟩ = some (.int .i64 d) ∧ w'.cell? ⟨XB + 1, 3, none⟩ = some (.int .i64 au) ∧ w'.cell? ⟨XB + 1, 4, none⟩ = some (.slice a2 L.length cap2)) (first | with_reducible exact HCK2.out _ ckd | with_reducible exact HCK2.out _ HRF.out)
            (first
            | (go_at_call 13; (with_reducible refine HDD.out.mono ?_); rintro e w3 ⟨rfl, ckd⟩))
          have HG3 := Lib.hid (grownBy_trans HG2.out ckd)
          obtain ⟨⟨x0, x1, x2, x3, x4⟩, y0, y1, y2, y3, y4⟩ := HCK2.out _ ckd
          clear ckd
          go_wp2_with fail
          go_ret
          exact ⟨rfl, HG3.out⟩
      · have r3 : ((e : Int) - 1 != (he : Int)) = true := by simp; omega
        have r3' : ((e : Int) - 1 == (he : Int)) = false := by rw [beq_eq_false_iff_ne]; omega
        have hG := G1 hz (Or.inr he1)
        subst hG
        clear he0 he1 HDG hds hz HZ G0 G1 HGS
        go_enter Tryd.func19, Tryd.ntmps19
        go_wp2_with (first | rw [HW.out.1, HW.out.2.2.2] | rw [HW.out.1, HW.out.2.1] | rw [HW.out.2.2.1, HW.out.2.2.2] | rw [HW.out.2.2.1] | rw [HW.out.1])
        refine (HCK.out _ (HU.out.grown HG1.out)).mono ?_
        rintro e w2 ⟨rfl, g2⟩
        have HB2 := Lib.hid (And.intro (g2.heap HB1.out.1 (by simp)) (g2.heap HB1.out.2 (by simp)))
        have HG2 := Lib.hid (grownBy_trans HG1.out g2)
        clear g2 x0 x1 x2 x3 x4 y0 y1 y2 y3 y4 HB1
        obtain ⟨x0, x1, x2, x3, x4⟩ := cells5 HB2.out.1
        obtain ⟨y0, y1, y2, y3, y4⟩ := cells5 HB2.out.2
        go_wp2_with fail
        go_ret
        exact ⟨rfl, HG2.out⟩
  · have q1 : (z != 0) = true := by simp [hz]
    have q2 : (z == 0) = false := by simp [hz]
    have hG := G0 hz
    subst hG
    clear hz HDG hds G0 G1 HGS
    go_enter Tryd.func19, Tryd.ntmps19
    go_wp2_with (first | rw [HW.out.1, HW.out.2.2.2] | rw [HW.out.1, HW.out.2.1] | rw [HW.out.2.2.1, HW.out.2.2.2] | rw [HW.out.2.2.1] | rw [HW.out.1])
    refine (HCK.out _ (HU.out.grown HG1.out)).mono ?_
    rintro e w2 ⟨rfl, g2⟩
    have HG2 := Lib.hid (grownBy_trans HG1.out g2)
    clear g2 x0 x1 x2 x3 x4 y0 y1 y2 y3 y4
    go_wp2_with fail
    go_ret
    exact ⟨rfl, HG2.out⟩

set_option maxRecDepth 100000 in
set_option maxHeartbeats 1600000 in
theorem hsame_any (h x : HdrS) (hh : h.small) (hx : x.small) (v u : Value) (w : World) (hv : StrsAt w v h.L) (hu : StrsAt w u x.L) :
    Calls Tryd.prog 15 #[h.val v, x.val u] w fun e w' => e = .returned (.bool (decide (h.err = 0) && (decide (x.err = 0) && decide (h.enc = x.enc)))) ∧ w.grownBy w' none := by
  obtain ⟨a, cap, rfl⟩ := hv.form
  obtain ⟨a2, cap2, rfl⟩ := hu.form
  have HEA := Lib.hid (fun w' q => hencode_any h hh (.slice a h.L.length cap) w' q)
  have HEB := Lib.hid (fun w' q => hencode_any x hx (.slice a2 x.L.length cap2) w' q)
  obtain ⟨e, p, d, au, L⟩ := x
  obtain ⟨he, hp, hd, ha, hL⟩ := h
  unfold HdrS.val at HEA HEB ⊢
  generalize (⟨e, p, d, au, L⟩ : HdrS).err = z2 at HEB ⊢
  generalize (⟨e, p, d, au, L⟩ : HdrS).enc = E2 at HEB ⊢
  generalize (⟨he, hp, hd, ha, hL⟩ : HdrS).err = z1 at HEA ⊢
  generalize (⟨he, hp, hd, ha, hL⟩ : HdrS).enc = E1 at HEA ⊢
  have hv : StrsAt w (.slice a hL.length cap) hL := hv
  have hu : StrsAt w (.slice a2 L.length cap2) L := hu
  have HEA : Hid (∀ w', StrsAt w' (.slice a hL.length cap) hL → Calls Tryd.prog 10 #[.agg #[.int .u64 he, .string hp, .int .i64 hd, .int .i64 ha, .slice a hL.length cap]] w' fun e w'' => e = .returned (.tuple #[.string E1, .int .i64 z1]) ∧ w'.grownBy w'' none) := HEA
  have HEB : Hid (∀ w', StrsAt w' (.slice a2 L.length cap2) L → Calls Tryd.prog 10 #[.agg #[.int .u64 e, .string p, .int .i64 d, .int .i64 au, .slice a2 L.length cap2]] w' fun e w'' => e = .returned (.tuple #[.string E2, .int .i64 z2]) ∧ w'.grownBy w'' none) := HEB
  simp only
  have HV := Lib.hid hv
  have HU := Lib.hid hu
  have hb0 := heap_alloc_at w (.cells #[.int .u64 he, .string hp, .int .i64 hd, .int .i64 ha, .slice a hL.length cap] 28) _ rfl
  have hg0 : w.grownBy (w.alloc (.cells #[.int .u64 he, .string hp, .int .i64 hd, .int .i64 ha, .slice a hL.length cap] 28)) none := World.grownBy_alloc _ _ _
  obtain ⟨W0, hW0⟩ : ∃ W0, w.alloc (.cells #[.int .u64 he, .string hp, .int .i64 hd, .int .i64 ha, .slice a hL.length cap] 28) = W0 := ⟨_, rfl⟩
  obtain ⟨XB, hXB⟩ : ∃ XB, w.heap.size = XB := ⟨_, rfl⟩
  rw [hW0] at hb0 hg0
  rw [hXB] at hb0
  have hb1 := heap_alloc_at W0 (.cells #[.int .u64 e, .string p, .int .i64 d, .int .i64 au, .slice a2 L.length cap2] 28) _ rfl
  have hg1 : W0.grownBy (W0.alloc (.cells #[.int .u64 e, .string p, .int .i64 d, .int .i64 au, .slice a2 L.length cap2] 28)) none := World.grownBy_alloc _ _ _
  obtain ⟨W1, hW1⟩ : ∃ W1, W0.alloc (.cells #[.int .u64 e, .string p, .int .i64 d, .int .i64 au, .slice a2 L.length cap2] 28) = W1 := ⟨_, rfl⟩
  have hYB : W0.heap.size = XB + 1 := by rw [← hW0, World.size_alloc, hXB]
  rw [hW1] at hb1 hg1
  rw [hYB] at hb1
  have HB1 := Lib.hid (And.intro (hg1.heap hb0 (by simp)) hb1)
  obtain ⟨x0, x1, x2, x3, x4⟩ := cells5 HB1.out.1
  obtain ⟨y0, y1, y2, y3, y4⟩ := cells5 HB1.out.2
  have HG1 := Lib.hid (grownBy_trans hg0 hg1)
  have HW := Lib.hid (And.intro hW0 (And.intro hXB (And.intro hW1 hYB)))
  clear hb0 hg0 hW0 hXB hb1 hg1 hW1 hYB hv hu hx hh
  by_cases hz1 : z1 = 0
  · have q1 : (z1 == 0) = true := by simp [hz1]
    rw [decide_eq_true hz1, Bool.true_and]
    by_cases hz2 : z2 = 0
    · have q2 : (z2 == 0) = true := by simp [hz2]
      rw [decide_eq_true hz2, Bool.true_and]
      have heq := eq_strE E1 E2
      obtain ⟨b, hb⟩ : ∃ b, decide (E1 = E2) = b := ⟨_, rfl⟩
      rw [hb] at heq ⊢
      clear hz1 hz2 hb
      go_enter Tryd.func15, Tryd.ntmps15
      go_wp2_with (first | rw [HW.out.1, HW.out.2.2.2] | rw [HW.out.1, HW.out.2.1] | rw [HW.out.2.2.1, HW.out.2.2.2] | rw [HW.out.2.2.1] | rw [HW.out.1])
      refine (HEA.out _ (HV.out.grown HG1.out)).mono ?_
      rintro e w2 ⟨rfl, g2⟩
      have HB2 := Lib.hid (And.intro (g2.heap HB1.out.1 (by simp)) (g2.heap HB1.out.2 (by simp)))
      have HG2 := Lib.hid (grownBy_trans HG1.out g2)
      clear g2 x0 x1 x2 x3 x4 y0 y1 y2 y3 y4 HB1
      obtain ⟨y0, y1, y2, y3, y4⟩ := cells5 HB2.out.2
      go_wp2_with fail
      refine (HEB.out _ (HU.out.grown HG2.out)).mono ?_
      rintro e w3 ⟨rfl, g3⟩
      have HG3 := Lib.hid (grownBy_trans HG2.out g3)
      clear g3 y0 y1 y2 y3 y4
      cases b with
      | true =>
        go_wp2_with fail
        go_ret
        exact ⟨rfl, HG3.out⟩
      | false =>
        go_wp2_with fail
        go_ret
        exact ⟨rfl, HG3.out⟩
    · have q2 : (z2 == 0) = false := by simp [hz2]
      rw [decide_eq_false hz2, Bool.false_and]
      clear hz1 hz2
      go_enter Tryd.func15, Tryd.ntmps15
      go_wp2_with (first | rw [HW.out.1, HW.out.2.2.2] | rw [HW.out.1, HW.out.2.1] | rw [HW.out.2.2.1, HW.out.2.2.2] | rw [HW.out.2.2.1] | rw [HW.out.1])
      refine (HEA.out _ (HV.out.grown HG1.out)).mono ?_
      rintro e w2 ⟨rfl, g2⟩
      have HB2 := Lib.hid (And.intro (g2.heap HB1.out.1 (by simp)) (g2.heap HB1.out.2 (by simp)))
      have HG2 := Lib.hid (grownBy_trans HG1.out g2)
      clear g2 x0 x1 x2 x3 x4 y0 y1 y2 y3 y4 HB1
      obtain ⟨y0, y1, y2, y3, y4⟩ := cells5 HB2.out.2
      go_wp2_with fail
      refine (HEB.out _ (HU.out.grown HG2.out)).mono ?_
      rintro e w3 ⟨rfl, g3⟩
      have HG3 := Lib.hid (grownBy_trans HG2.out g3)
      clear g3 y0 y1 y2 y3 y4
      go_wp2_with fail
      go_ret
      exact ⟨rfl, HG3.out⟩
  · have q1 : (z1 == 0) = false := by simp [hz1]
    rw [decide_eq_false hz1, Bool.false_and]
    clear hz1
    go_enter Tryd.func15, Tryd.ntmps15
    go_wp2_with (first | rw [HW.out.1, HW.out.2.2.2] | rw [HW.out.1, HW.out.2.1] | rw [HW.out.2.2.1, HW.out.2.2.2] | rw [HW.out.2.2.1] | rw [HW.out.1])
    refine (HEA.out _ (HV.out.grown HG1.out)).mono ?_
    rintro e w2 ⟨rfl, g2⟩
    have HB2 := Lib.hid (And.intro (g2.heap HB1.out.1 (by simp)) (g2.heap HB1.out.2 (by simp)))
    have HG2 := Lib.hid (grownBy_trans HG1.out g2)
    clear g2 x0 x1 x2 x3 x4 y0 y1 y2 y3 y4 HB1
    obtain ⟨y0, y1, y2, y3, y4⟩ := cells5 HB2.out.2
    go_wp2_with fail
    refine (HEB.out _ (HU.out.grown HG2.out)).mono ?_
    rintro e w3 ⟨rfl, g3⟩
    have HG3 := Lib.hid (grownBy_trans HG2.out g3)
    clear g3 y0 y1 y2 y3 y4
    go_wp2_with fail
    go_ret
    exact ⟨rfl, HG3.out⟩
end Go.Proofs.YtemndmhdlgfajaaDoor
