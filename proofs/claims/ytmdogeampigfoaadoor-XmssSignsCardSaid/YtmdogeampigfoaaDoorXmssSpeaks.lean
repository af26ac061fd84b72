/- The walk of the xmss laws' speaks. -/
import Derived.Test.YtmdogeampigfoaaDoorXmssC
import Derived.Test.YtmdogeampigfoaaDoorXmssDiff
namespace Go.Proofs.YtmdogeampigfoaaDoor
open Go.RowKit
attribute [local irreducible] shaL

theorem rec_pub (seed : ByteArray) (leaf : Nat) (d : List UInt8) (h : d.length = 16) : publicOfS (openS seed) leaf (recS (openS seed) leaf (digs d) (sigS seed leaf (digs d) 35) 35) = publicS seed leaf := by
  rw [rec_sig seed leaf (digs d) (digs_bd d h) 35 (by rw [digs_length]; omega) 35 (Nat.le_refl _)]
  rfl
theorem leavesS_at (seed : ByteArray) (h i : Nat) (hi : i < 2 ^ h) : (leavesS seed h)[i]? = some (publicS seed i) := by simp [leavesS, hi]
/-- P8.2: a key's signature climbs to its root -/
theorem sign_climbs (seed m : ByteArray) (h i : Nat) (hi : i < 2 ^ h) : climbS (publicOfS (openS seed) i (recS (openS seed) i (digs (digestS (openS seed) i m).data.toList) (chainsS seed i m) 35)) i (pathS h (leavesS seed h) i) = rootK seed h := by
  unfold chainsS
  have e := rec_pub seed i (digestS (openS seed) i m).data.toList (digestS_size _ _ _)
  rw [e]
  exact climb_path h _ i _ (leavesS_length seed h) (leavesS_at seed h i hi)
theorem chains_16 (seed m : ByteArray) (i : Nat) : ∀ s ∈ chainsS seed i m, s.size = 16 := sigS_all _ _ _ _
theorem chains_35 (seed m : ByteArray) (i : Nat) : (chainsS seed i m).length = 35 := sigS_length _ _ _ _
theorem path_small (seed : ByteArray) (h i : Nat) : ∀ s ∈ pathS h (leavesS seed h) i, s.size ≤ 1000000000000 := pathS_sizes _ _ _ _ (by decide) (fun s hs => by rw [leavesS_sizes seed h s hs]; decide)

theorem spk_keep {w a c : World} {b : Nat} {x0 x1 x2 : Value} (h : w.grownBy a none) (g : a.grownBy c none) (k0 : w.cell? ⟨b, 0, none⟩ = some x0) (k1 : w.cell? ⟨b, 1, none⟩ = some x1) (k2 : w.cell? ⟨b, 2, none⟩ = some x2) :
    w.grownBy c none ∧ c.cell? ⟨b, 0, none⟩ = some x0 ∧ c.cell? ⟨b, 1, none⟩ = some x1 ∧ c.cell? ⟨b, 2, none⟩ = some x2 :=
  have hg := grownBy_trans h g
  ⟨hg, hg.cell k0 (by simp), hg.cell k1 (by simp), hg.cell k2 (by simp)⟩
set_option maxRecDepth 100000 in
set_option maxHeartbeats 1600000 in
theorem xmss_speaks (w : World) (hr : ShaReady w) : Calls Tryd.prog 14 #[] w fun e w' => e = .returned (.bool true) ∧ w.grownBy w' none := by
  have HR := Lib.hid hr
  have hnew := Lib.hid (xnew_any seedB 1 (by decide) (by decide) w hr)
  have hyes := sign_climbs seedB helloB 1 1 (by decide)
  have hyes2 : ((climbS (publicOfS (openS seedB) 1 (recS (openS seedB) 1 (digs (digestS (openS seedB) 1 helloB).data.toList) (chainsS seedB 1 helloB) 35)) 1 (pathS 1 (leavesS seedB 1) 1)).toList == (rootK seedB 1).toList) = true := by rw [hyes]; simp
  have hno : ((climbS (publicOfS (openS seedB) 1 (recS (openS seedB) 1 (digs (digestS (openS seedB) 1 halloB).data.toList) (chainsS seedB 1 helloB) 35)) 1 (pathS 1 (leavesS seedB 1) 1)).toList == (rootK seedB 1).toList) = false := hallo_not
  have hC := chains_35 seedB helloB 1
  have hC16 := chains_16 seedB helloB 1
  have hP := pathS_length 1 (leavesS seedB 1) 1
  have hP16 := path_small seedB 1 1
  have ho := openS_size seedB
  have hsgn : Hid (∀ w0 b, KeyAt w0 b seedB 1 → ShaReady w0 → Calls Tryd.prog 17 #[.pointer (some ⟨b, 0, none⟩), .int .i64 1, .string ⟨#[104, 101, 108, 108, 111]⟩] w0 fun e w' => ∃ c p, e = .returned (.tuple #[sigV 1 c p, .int .i64 0]) ∧ StrsAt w' c (chainsS seedB 1 helloB) ∧ StrsAt w' p (pathS 1 (leavesS seedB 1) 1) ∧ w0.grownBy w' none) := fun w0 b hk h0 =>
    xsign_any b seedB helloB 1 1 (by decide) (by decide) (by decide) (by decide) w0 hk h0
  have hver : Hid (∀ (ca : Option Addr) (cc : Nat) (pa : Option Addr) (pc : Nat) w0, StrsAt w0 (.slice ca 35 cc) (chainsS seedB 1 helloB) → StrsAt w0 (.slice pa 1 pc) (pathS 1 (leavesS seedB 1) 1) → ShaReady w0 →
      Calls Tryd.prog 20 #[.agg #[.string (openS seedB), .string (rootK seedB 1), .int .i64 1], .string ⟨#[104, 101, 108, 108, 111]⟩, .agg #[.int .i64 1, .slice ca 35 cc, .slice pa 1 pc]] w0 fun e w' => e = .returned (.bool true) ∧ w0.grownBy w' none) := fun ca cc pa pc w0 h1 h2 h0 =>
    verify_any (openS seedB) (rootK seedB 1) helloB 1 1 _ _ ca cc pa pc true (by decide) (by decide) ho (by decide) hC hC16 hP hP16 hyes2 w0 h1 h2 h0
  have hver2 : Hid (∀ (ca : Option Addr) (cc : Nat) (pa : Option Addr) (pc : Nat) w0, StrsAt w0 (.slice ca 35 cc) (chainsS seedB 1 helloB) → StrsAt w0 (.slice pa 1 pc) (pathS 1 (leavesS seedB 1) 1) → ShaReady w0 →
      Calls Tryd.prog 20 #[.agg #[.string (openS seedB), .string (rootK seedB 1), .int .i64 1], .string ⟨#[104, 97, 108, 108, 111]⟩, .agg #[.int .i64 1, .slice ca 35 cc, .slice pa 1 pc]] w0 fun e w' => e = .returned (.bool false) ∧ w0.grownBy w' none) := fun ca cc pa pc w0 h1 h2 h0 =>
    verify_any (openS seedB) (rootK seedB 1) halloB 1 1 _ _ ca cc pa pc false (by decide) (by decide) ho (by decide) hC hC16 hP hP16 hno w0 h1 h2 h0
  have hpub : Hid (∀ w0 b, KeyAt w0 b seedB 1 → Calls Tryd.prog 18 #[.pointer (some ⟨b, 0, none⟩)] w0 fun e w' => e = .returned (.agg #[.string (openS seedB), .string (rootK seedB 1), .int .i64 1]) ∧ w0.grownBy w' none) := fun w0 b hk => xpublic_any b seedB 1 w0 hk
  have hcnt : Hid (∀ w0 b, KeyAt w0 b seedB 1 → Calls Tryd.prog 16 #[.pointer (some ⟨b, 0, none⟩)] w0 fun e w' => e = .returned (.int .i64 2) ∧ w0 = w') := fun w0 b hk => count_any b seedB 1 2 rfl w0 hk
  obtain ⟨C, hCe⟩ : ∃ C, chainsS seedB 1 helloB = C := ⟨_, rfl⟩
  obtain ⟨P, hPe⟩ : ∃ P, pathS 1 (leavesS seedB 1) 1 = P := ⟨_, rfl⟩
  rw [hCe] at hC hsgn hver hver2
  rw [hPe] at hP hsgn hver hver2
  clear hyes hyes2 hno hC16 hP16 hCe hPe hr
  obtain ⟨O, hO⟩ : ∃ O, openS seedB = O := ⟨_, rfl⟩
  obtain ⟨R, hRe⟩ : ∃ R, rootK seedB 1 = R := ⟨_, rfl⟩
  rw [hO, hRe] at hpub hver hver2
  clear hO hRe ho
  have hseed : Hid (Calls Tryd.prog 15 #[.string ⟨#[115, 101, 101, 100]⟩, .int .i64 1] w fun e w' => ∃ b, e = .returned (.tuple #[.pointer (some ⟨b, 0, none⟩), .int .i64 0]) ∧ KeyAt w' b seedB 1 ∧ w.grownBy w' none) := hnew.out
  have HCL := Lib.hid hC
  have HPL := Lib.hid hP
  clear hnew hC hP
  go_enter Tryd.func14, Tryd.ntmps14
  go_wp2_with fail
  refine hseed.out.mono ?_
  rintro e w1 ⟨b, rfl, hk1, g1⟩
  have HK1 := Lib.hid hk1
  have G1 := Lib.hid g1
  clear hk1 g1 hseed
  go_wp2_with fail
  refine (hsgn.out w1 b HK1.out (HR.out.grown G1.out)).mono ?_
  rintro e w2 ⟨c, p, rfl, hc2, hp2, g2⟩
  obtain ⟨ca, cc, rfl⟩ := hc2.form
  obtain ⟨pa, pc, rfl⟩ := hp2.form
  rw [HCL.out] at hc2 ⊢
  rw [HPL.out] at hp2 ⊢
  have HC2 := Lib.hid hc2
  have HP2 := Lib.hid hp2
  have G2 := Lib.hid (grownBy_trans G1.out g2)
  have HK2 := Lib.hid (HK1.out.grown g2)
  clear hc2 hp2 g2 hsgn HK1 G1
  unfold sigV
  go_wp2_with fail
  have hsc : (w2.alloc (.cells #[.int .i64 1, .slice ca 35 cc, .slice pa 1 pc] 44)).heap[w2.heap.size]? = some (.cells #[.int .i64 1, .slice ca 35 cc, .slice pa 1 pc] 44 (0, 0)) := heap_alloc_at _ _ _ rfl
  have hg3 : w2.grownBy (w2.alloc (.cells #[.int .i64 1, .slice ca 35 cc, .slice pa 1 pc] 44)) none := World.grownBy_alloc _ _ _
  have HSC := Lib.hid hsc
  have HG3 := Lib.hid hg3
  clear hsc hg3
  generalize w2.alloc (.cells #[.int .i64 1, .slice ca 35 cc, .slice pa 1 pc] 44) = w3 at HSC HG3 ⊢
  have s0 := cell_of HSC.out 0
  have s1 := cell_of HSC.out 1
  have s2 := cell_of HSC.out 2
  simp at s0 s1 s2
  generalize w2.heap.size = B at *
  have HC3 := Lib.hid (HC2.out.grown HG3.out)
  have HP3 := Lib.hid (HP2.out.grown HG3.out)
  have HK3 := Lib.hid (HK2.out.grown HG3.out)
  have G3 := Lib.hid (grownBy_trans G2.out HG3.out)
  have HR3 := Lib.hid (HR.out.grown G3.out)
  clear HC2 HP2 HK2 G2 HG3 HSC
  go_region_held3 (fun w' => w3.grownBy w' none ∧ w'.cell? ⟨B, 0, none⟩ = some (.int .i64 1) ∧ w'.cell? ⟨B, 1, none⟩ = some (.slice ca 35 cc) ∧ w'.cell? ⟨B, 2, none⟩ = some (.slice pa 1 pc)) (first | exact ck | exact ⟨grownBy_drew (World.grownBy.refl _ _), s0, s1, s2⟩)
    (first
      | (go_at_call 16; (with_reducible refine (hcnt.out _ b (HK3.out.grown (grownBy_drew (World.grownBy.refl _ _)))).mono ?_); rintro e w4 ⟨rfl, rfl⟩; have ck := spk_keep (grownBy_drew (World.grownBy.refl w3 none)) (World.grownBy.refl _ _) s0 s1 s2)
      | (go_at_call 18; (with_reducible refine (hpub.out _ b (HK3.out.grown ck.1)).mono ?_); rintro e w4 ⟨rfl, g4⟩; have ck := spk_keep ck.1 g4 s0 s1 s2)
      | (go_at_call 20; (with_reducible refine (hver.out ca cc pa pc _ (HC3.out.grown ck.1) (HP3.out.grown ck.1) (HR3.out.grown ck.1)).mono ?_); rintro e w4 ⟨rfl, g4⟩; have ck := spk_keep ck.1 g4 s0 s1 s2)
      | (go_at_call 20; (with_reducible refine (hver2.out ca cc pa pc _ (HC3.out.grown ck.1) (HP3.out.grown ck.1) (HR3.out.grown ck.1)).mono ?_); rintro e w4 ⟨rfl, g4⟩; have ck := spk_keep ck.1 g4 s0 s1 s2))
  have GF := Lib.hid (grownBy_trans G3.out ck.1)
  clear ck
  go_wp2_with fail
  go_ret
  exact ⟨rfl, GF.out⟩
end Go.Proofs.YtmdogeampigfoaaDoor
