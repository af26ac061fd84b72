/- The walk of the law XmssSigns. -/
import Derived.Test.YtmdogeampigfoaaDoorXmssSpeaks
import Derived.Test.YtmdogeampigfoaaDoorCuts
import Derived.Deep.DeepCutAuto
import Derived.Deep.CutBlock
namespace Go.Proofs.YtmdogeampigfoaaDoor
open Go.RowKit
attribute [local irreducible] shaL

theorem and3i_all : ((List.range 256).all fun k => bits .and .i64 ((k : Int) - 128) 3 == ((k : Int) - 128) % 4) = true := by decide +kernel
theorem and3i (n : Int) (h : -128 ≤ n ∧ n ≤ 127) : bits .and .i64 n 3 = n % 4 := by
  have := List.all_eq_true.1 and3i_all (n + 128).toNat (List.mem_range.2 (by omega))
  rw [beq_iff_eq, show (((n + 128).toNat : Nat) : Int) - 128 = n from by omega] at this
  exact this

theorem six_keep {w a c : World} {B E : Nat} {x0 x1 x2 y0 y1 y2 : Value} (h : w.grownBy a none ∧ a.cell? ⟨B, 0, none⟩ = some x0 ∧ a.cell? ⟨B, 1, none⟩ = some x1 ∧ a.cell? ⟨B, 2, none⟩ = some x2 ∧ a.cell? ⟨E, 0, none⟩ = some y0 ∧ a.cell? ⟨E, 1, none⟩ = some y1 ∧ a.cell? ⟨E, 2, none⟩ = some y2) (g : a.grownBy c none) :
    w.grownBy c none ∧ c.cell? ⟨B, 0, none⟩ = some x0 ∧ c.cell? ⟨B, 1, none⟩ = some x1 ∧ c.cell? ⟨B, 2, none⟩ = some x2 ∧ c.cell? ⟨E, 0, none⟩ = some y0 ∧ c.cell? ⟨E, 1, none⟩ = some y1 ∧ c.cell? ⟨E, 2, none⟩ = some y2 :=
  let ⟨h0, h1, h2, h3, h4, h5, h6⟩ := h
  ⟨grownBy_trans h0 g, g.cell h1 (by simp), g.cell h2 (by simp), g.cell h3 (by simp), g.cell h4 (by simp), g.cell h5 (by simp), g.cell h6 (by simp)⟩
set_option maxRecDepth 100000 in
set_option maxHeartbeats 3200000 in
theorem xmssSigns_walk (seed m : ByteArray) (l : List Int) (hs : seed.size ≤ maxLen) (hm : m.size ≤ maxLen) (hl : l.length = 2) (hz : ∀ y ∈ l, (Lit.int .i8 y).wf = true) (w : World) (hr : ShaReady w) :
    Calls Tryd.prog 6 #[.string seed, .string m, .agg (l.map (Value.int .i8)).toArray] w fun e w' => e = .returned (.bool true) ∧ w.grownBy w' none := by
  unfold maxLen at hs hm
  obtain ⟨n0, n1, rfl⟩ : ∃ n0 n1, l = [n0, n1] := by
    match l, hl with
    | [a, b], _ => exact ⟨a, b, rfl⟩
  have h0 := hz n0 (by simp)
  have h1 := hz n1 (by simp)
  simp [Lit.wf, IntKind.min, IntKind.max, IntKind.signed, IntKind.bits] at h0 h1
  have HR := Lib.hid hr
  clear hr hz hl
  go_enter Tryd.func6, Tryd.ntmps6
  go_wp2_with fail
  have hR0 : ShaReady (w.alloc (.cells #[.int .i8 n0, .int .i8 n1] 38)) := HR.out.grown (World.grownBy_alloc _ _ _)
  have HSP := Lib.hid (xmss_speaks _ hR0)
  clear hR0
  have c0 : (w.alloc (.cells #[.int .i8 n0, .int .i8 n1] 38)).heap[w.heap.size]? = some (.cells #[.int .i8 n0, .int .i8 n1] 38 (0, 0)) := heap_alloc_at _ _ _ rfl
  have HC := Lib.hid c0
  have hG0 : w.grownBy (w.alloc (.cells #[.int .i8 n0, .int .i8 n1] 38)) none := World.grownBy_alloc _ _ _
  have G0 := Lib.hid hG0
  clear c0 hG0
  refine HSP.out.mono ?_
  rintro e w1 ⟨rfl, g1⟩
  have G1 := Lib.hid (grownBy_trans G0.out g1)
  have hb : w1.heap[w.heap.size]? = some (.cells #[.int .i8 n0, .int .i8 n1] 38 (0, 0)) := by
    rw [g1.block w.heap.size (by simp) (by simp)]
    exact HC.out
  have HB := Lib.hid hb
  clear g1 hb HC HSP G0
  go_upto_region 3 with (fail)
  go_cut [0, 1] (fun sv xv wx => sv = .string (cutAt 20 seed) ∧ xv = .string (cutAt 100 m) ∧ Hid (∃ n, wx = w1.drewN n))
  case first =>
    by_cases q1 : seed.size ≤ 20
    · by_cases q2 : m.size ≤ 100
      · have z1 := cutAt_le 20 seed q1
        have z2 := cutAt_le 100 m q2
        go_region
        all_goals
          go_wp2_with fail
          go_meet
          case rel => exact ⟨by rw [z1], by rw [z2], ⟨1, rfl⟩⟩
      · have z1 := cutAt_le 20 seed q1
        have z2 := cutAt_gt 100 m q2
        go_region
        all_goals
          go_wp2_with fail
          go_meet
          case rel => exact ⟨by rw [z1], by rw [z2], ⟨1, rfl⟩⟩
    · by_cases q2 : m.size ≤ 100
      · have z1 := cutAt_gt 20 seed q1
        have z2 := cutAt_le 100 m q2
        go_region
        all_goals
          go_wp2_with fail
          go_meet
          case rel => exact ⟨by rw [z1], by rw [z2], ⟨1, rfl⟩⟩
      · have z1 := cutAt_gt 20 seed q1
        have z2 := cutAt_gt 100 m q2
        go_region
        all_goals
          go_wp2_with fail
          go_meet
          case rel => exact ⟨by rw [z1], by rw [z2], ⟨1, rfl⟩⟩
  case rest =>
    obtain ⟨rfl, rfl, HW⟩ := hcut
    obtain ⟨n, rfl⟩ := HW
    have hss := cutAt_size 20 seed
    have hxs := cutAt_size 100 m
    generalize cutAt 20 seed = s at hss ⊢
    generalize cutAt 100 m = y at hxs ⊢
    have G2 := Lib.hid (grownBy_drewN G1.out n)
    have HB2 : Hid ((w1.drewN n).heap[w.heap.size]? = some (.cells #[.int .i8 n0, .int .i8 n1] 38 (0, 0))) := HB.out
    clear G1 HB
    generalize w1.drewN n = w2 at G2 HB2 ⊢
    have c0 := cell_of HB2.out 0
    have c1 := cell_of HB2.out 1
    simp at c0 c1
    have e0 := and3i n0 h0
    go_wp2_with fail
    go_quiet (fail)
    have f0 : 0 ≤ n0 % 4 ∧ n0 % 4 < 4 := by omega
    clear e0 c0 c1
    generalize n0 % 4 = A at f0 ⊢
    obtain ⟨h, rfl⟩ := Int.eq_ofNat_of_zero_le f0.1
    have hh : h ≤ 3 := by omega
    clear f0
    obtain ⟨N, hN⟩ : ∃ N, 2 ^ h = N := ⟨_, rfl⟩
    have hN8 : N ≤ 8 := by rw [← hN]; exact Nat.pow_le_pow_right (n := 2) (by decide) hh
    have HN := Lib.hid hN
    have b1 : (0 : Int) ≤ (h : Int) := by omega
    have b2 : (h : Int) < 64 := by omega
    have hsh : IntKind.i64.wrap (2 ^ h) = (N : Int) := by
      have e : ((2 : Int) ^ h) = (N : Int) := by rw [← HN.out]; simp
      rw [e]
      exact IntWalk.i64_in _ (by omega)
    go_wp2_with fail
    refine (xnew_any s h (by omega) (by omega) _ (HR.out.grown (grownBy_drewN G2.out _))).mono ?_
    rintro e w4 ⟨b, rfl, hk4, g4⟩
    have HK4 := Lib.hid hk4
    have G4 := Lib.hid (grownBy_trans (grownBy_drewN G2.out _) g4)
    clear hk4 g4 G2 HB2
    have hcnt : Hid (∀ w0, w4.grownBy w0 none → Calls Tryd.prog 16 #[.pointer (some ⟨b, 0, none⟩)] w0 fun e w' => e = .returned (.int .i64 N) ∧ w0 = w') := fun w0 h0 => count_any b s h N HN.out w0 (HK4.out.grown h0)
    go_wp2_with fail
    go_region_held3 (fun w' => w4.grownBy w' none) (first | exact ck | exact grownBy_drew (World.grownBy.refl _ _))
      (first
        | (go_at_call 16; (with_reducible refine (hcnt.out _ (grownBy_drew (World.grownBy.refl _ _))).mono ?_); rintro e w5 ⟨rfl, rfl⟩; have ck : w4.grownBy w4.drew none := grownBy_drew (World.grownBy.refl _ _)))
    clear ck
    have HK5 := Lib.hid (HK4.out.grown (grownBy_drew (World.grownBy.refl w4 none)))
    have G5 := Lib.hid (grownBy_drew G4.out)
    clear HK4 G4 hcnt
    generalize w4.drew = w5 at HK5 G5 ⊢
    have HR5 := Lib.hid (HR.out.grown G5.out)
    by_cases hneg : n1 < 0
    · have d1 : ¬ (N : Int) ≤ n1 := by omega
      go_wp2_with fail
      refine (xsign_neg b s y h n1 (by omega) hneg w5 HK5.out).mono ?_
      rintro e w6 ⟨rfl, g6⟩
      have G6 := Lib.hid (grownBy_trans G5.out g6)
      clear g6
      unfold sigZ sigV
      go_wp2_with fail
      go_ret
      exact ⟨by show Ending.returned (Value.bool (!decide ((N : Int) ≤ n1))) = _; rw [decide_eq_false (by omega)]; rfl, grownBy_alloc' G6.out _⟩
    · by_cases hin : n1 < (N : Int)
      · obtain ⟨i, rfl⟩ := Int.eq_ofNat_of_zero_le (show 0 ≤ n1 by omega)
        have hi : i < 2 ^ h := by rw [HN.out]; omega
        have d1 : ¬ (N : Int) ≤ (i : Int) := by omega
        go_wp2_with fail
        refine (xsign_any b s y h i (by omega) hi (by omega) (by omega) w5 HK5.out HR5.out).mono ?_
        rintro e w6 ⟨c, p, rfl, hc6, hp6, g6⟩
        obtain ⟨ca, cc, rfl⟩ := hc6.form
        obtain ⟨pa, pc, rfl⟩ := hp6.form
        rw [chains_35] at hc6 ⊢
        rw [pathS_length] at hp6 ⊢
        have HC6 := Lib.hid hc6
        have HP6 := Lib.hid hp6
        have G6 := Lib.hid (grownBy_trans G5.out g6)
        have HK6 := Lib.hid (HK5.out.grown g6)
        clear hc6 hp6 g6 HK5 G5 HR5
        unfold sigV
        go_wp2_with fail
        have hsc : (w6.alloc (.cells #[.int .i64 i, .slice ca 35 cc, .slice pa h pc] 44)).heap[w6.heap.size]? = some (.cells #[.int .i64 i, .slice ca 35 cc, .slice pa h pc] 44 (0, 0)) := heap_alloc_at _ _ _ rfl
        have hg7 : w6.grownBy (w6.alloc (.cells #[.int .i64 i, .slice ca 35 cc, .slice pa h pc] 44)) none := World.grownBy_alloc _ _ _
        have HSC := Lib.hid hsc
        have HG7 := Lib.hid hg7
        clear hsc hg7
        generalize w6.alloc (.cells #[.int .i64 i, .slice ca 35 cc, .slice pa h pc] 44) = w7 at HSC HG7 ⊢
        generalize w6.heap.size = B at HSC ⊢
        refine (xpublic_any b s h w7 (HK6.out.grown HG7.out)).mono ?_
        rintro e w8 ⟨rfl, g8⟩
        have hsc8 := (g8.block _ (Array.getElem?_eq_some_iff.1 HSC.out).1 (by simp)).trans HSC.out
        have HSC8 := Lib.hid hsc8
        have HG8 := Lib.hid (grownBy_trans HG7.out g8)
        have hBs : B < w8.heap.size := (Array.getElem?_eq_some_iff.1 hsc8).1
        clear hsc8 g8 HSC HG7
        unfold pubV
        have ho16 := openS_size s
        have hyes : ((climbS (publicOfS (openS s) i (recS (openS s) i (digs (digestS (openS s) i y).data.toList) (chainsS s i y) 35)) i (pathS h (leavesS s h) i)).toList == (rootK s h).toList) = true := by rw [sign_climbs s y h i hi]; simp
        have hver : Hid (∀ w0, w6.grownBy w0 none → ShaReady w0 → Calls Tryd.prog 20 #[.agg #[.string (openS s), .string (rootK s h), .int .i64 h], .string y, .agg #[.int .i64 i, .slice ca 35 cc, .slice pa h pc]] w0 fun e w' => e = .returned (.bool true) ∧ w0.grownBy w' none) := fun w0 h1 h2 =>
          verify_any (openS s) (rootK s h) y h i _ _ ca cc pa pc true (by omega) hi ho16 (by omega) (chains_35 _ _ _) (chains_16 _ _ _) (pathS_length _ _ _) (path_small _ _ _) hyes w0 (HC6.out.grown h1) (HP6.out.grown h1) h2
        have hopn : Hid (∀ w0, ShaReady w0 → Calls Tryd.prog 19 #[.string s] w0 fun e w' => e = .returned (.string (openS s)) ∧ w0.grownBy w' none) := fun w0 h0 => wopen_any s (by omega) w0 h0
        have hrdg : Hid (∀ w0, Calls Tryd.prog 22 #[.string (openS s), .int .i64 i, .string y] w0 fun e w' => e = .returned (.string (digestS (openS s) i y)) ∧ w0.grownBy w' none) := fun w0 => refDigest_any (openS s) y i (by omega) (by omega) (by omega) w0
        have hrec : Hid (∀ w0, w6.grownBy w0 none → ShaReady w0 → Calls Tryd.prog 21 #[.string (openS s), .int .i64 i, .string (digestS (openS s) i y), .slice ca 35 cc] w0 fun e w' => e = .returned (.tuple #[.string (publicS s i), .int .i64 0]) ∧ w0.grownBy w' none) := fun w0 h1 h2 => by
          have := wrecover_any (openS s) (digestS (openS s) i y) i _ (chainsS s i y) (by omega) (digestS_size _ _ _) (by omega) (chains_35 _ _ _) (chains_16 _ _ _) w0 (HC6.out.grown h1) h2
          unfold chainsS at this
          rw [rec_pub s i (digestS (openS s) i y).data.toList (digestS_size _ _ _)] at this
          exact this
        have hpbl : Hid (∀ w0, ShaReady w0 → Calls Tryd.prog 23 #[.string s, .int .i64 i] w0 fun e w' => e = .returned (.string (publicS s i)) ∧ w0.grownBy w' none) := fun w0 h0 => wpublic_any s i (by omega) (by omega) w0 h0
        have hclm : Hid (∀ w0, w6.grownBy w0 none → ShaReady w0 → Calls Tryd.prog 12 #[.string (publicS s i), .int .i64 i, .slice pa h pc] w0 fun e w' => e = .returned (.string (rootK s h)) ∧ w0.grownBy w' none) := fun w0 h1 h2 => by
          have := climb_any (publicS s i) i _ (pathS h (leavesS s h) i) (by omega) (by rw [pathS_length]; omega) (by rw [publicS_16]; decide) (path_small _ _ _) w0 (HP6.out.grown h1) h2
          rw [climb_path h _ i _ (leavesS_length s h) (leavesS_at s h i hi)] at this
          exact this
        clear hyes ho16
        generalize digestS (openS s) i y = D at hrdg hrec
        generalize publicS s i = L at hrec hpbl hclm
        generalize openS s = O at hver hopn hrdg hrec ⊢
        generalize rootK s h = R at hver hclm ⊢
        have HI := Lib.hid hi
        have HR8 := Lib.hid (HR.out.grown (grownBy_trans G6.out HG8.out))
        clear hi HK6 HC6 HP6
        go_wp2_with fail
        have hpc9 : (w8.alloc (.cells #[.string O, .string R, .int .i64 h] 48)).heap[w8.heap.size]? = some (.cells #[.string O, .string R, .int .i64 h] 48 (0, 0)) := heap_alloc_at _ _ _ rfl
        have hsc9 : (w8.alloc (.cells #[.string O, .string R, .int .i64 h] 48)).heap[B]? = some (.cells #[.int .i64 i, .slice ca 35 cc, .slice pa h pc] 44 (0, 0)) := by
          rw [Below.heap_alloc _ _ _ hBs]
          exact HSC8.out
        have hg9 : w8.grownBy (w8.alloc (.cells #[.string O, .string R, .int .i64 h] 48)) none := World.grownBy_alloc _ _ _
        have HP9 := Lib.hid hpc9
        have HS9 := Lib.hid hsc9
        have HG9 := Lib.hid (grownBy_trans HG8.out hg9)
        have HR9 := Lib.hid (HR8.out.grown hg9)
        clear hpc9 hsc9 hg9 HSC8 HG8 HR8 hBs
        generalize w8.alloc (.cells #[.string O, .string R, .int .i64 h] 48) = w9 at HP9 HS9 HG9 HR9 ⊢
        generalize w8.heap.size = E at HP9 ⊢
        have a0 := cell_of HS9.out 0
        have a1 := cell_of HS9.out 1
        have a2 := cell_of HS9.out 2
        have p0 := cell_of HP9.out 0
        have p1 := cell_of HP9.out 1
        have p2 := cell_of HP9.out 2
        simp at a0 a1 a2 p0 p1 p2
        have ck : w9.grownBy w9.drew none ∧ w9.drew.cell? ⟨B, 0, none⟩ = some (.int .i64 i) ∧ w9.drew.cell? ⟨B, 1, none⟩ = some (.slice ca 35 cc) ∧ w9.drew.cell? ⟨B, 2, none⟩ = some (.slice pa h pc) ∧ w9.drew.cell? ⟨E, 0, none⟩ = some (.string O) ∧ w9.drew.cell? ⟨E, 1, none⟩ = some (.string R) ∧ w9.drew.cell? ⟨E, 2, none⟩ = some (.int .i64 h) :=
          ⟨grownBy_drew (World.grownBy.refl _ _), a0, a1, a2, p0, p1, p2⟩
        clear a0 a1 a2 p0 p1 p2 HP9 HS9
        go_region_held3 (fun w' => w9.grownBy w' none ∧ w'.cell? ⟨B, 0, none⟩ = some (.int .i64 i) ∧ w'.cell? ⟨B, 1, none⟩ = some (.slice ca 35 cc) ∧ w'.cell? ⟨B, 2, none⟩ = some (.slice pa h pc) ∧ w'.cell? ⟨E, 0, none⟩ = some (.string O) ∧ w'.cell? ⟨E, 1, none⟩ = some (.string R) ∧ w'.cell? ⟨E, 2, none⟩ = some (.int .i64 h)) (first | exact ck | exact ck)
          (first
            | (go_at_call 19; (with_reducible refine (hopn.out _ (HR9.out.grown ck.1)).mono ?_); rintro e wA ⟨rfl, g9⟩; have ck := six_keep ck g9)
            | (go_at_call 20; (with_reducible refine (hver.out _ (grownBy_trans HG9.out ck.1) (HR9.out.grown ck.1)).mono ?_); rintro e wA ⟨rfl, g9⟩; have ck := six_keep ck g9))
        have ck : w9.grownBy wA.drew none ∧ wA.drew.cell? ⟨B, 0, none⟩ = some (.int .i64 i) ∧ wA.drew.cell? ⟨B, 1, none⟩ = some (.slice ca 35 cc) ∧ wA.drew.cell? ⟨B, 2, none⟩ = some (.slice pa h pc) ∧ wA.drew.cell? ⟨E, 0, none⟩ = some (.string O) ∧ wA.drew.cell? ⟨E, 1, none⟩ = some (.string R) ∧ wA.drew.cell? ⟨E, 2, none⟩ = some (.int .i64 h) :=
          ⟨grownBy_drew ck.1, ck.2⟩
        go_wp2_with fail
        go_region_held3 (fun w' => w9.grownBy w' none ∧ w'.cell? ⟨B, 0, none⟩ = some (.int .i64 i) ∧ w'.cell? ⟨B, 1, none⟩ = some (.slice ca 35 cc) ∧ w'.cell? ⟨B, 2, none⟩ = some (.slice pa h pc) ∧ w'.cell? ⟨E, 0, none⟩ = some (.string O) ∧ w'.cell? ⟨E, 1, none⟩ = some (.string R) ∧ w'.cell? ⟨E, 2, none⟩ = some (.int .i64 h)) (first | exact ck | exact ck)
          (first
            | (go_at_call 22; (with_reducible refine (hrdg.out _).mono ?_); rintro e wB ⟨rfl, g9⟩; have ck := six_keep ck g9)
            | (go_at_call 21; (with_reducible refine (hrec.out _ (grownBy_trans HG9.out ck.1) (HR9.out.grown ck.1)).mono ?_); rintro e wB ⟨rfl, g9⟩; have ck := six_keep ck g9))
        have ck : w9.grownBy wB.drew none ∧ wB.drew.cell? ⟨B, 0, none⟩ = some (.int .i64 i) ∧ wB.drew.cell? ⟨B, 1, none⟩ = some (.slice ca 35 cc) ∧ wB.drew.cell? ⟨B, 2, none⟩ = some (.slice pa h pc) ∧ wB.drew.cell? ⟨E, 0, none⟩ = some (.string O) ∧ wB.drew.cell? ⟨E, 1, none⟩ = some (.string R) ∧ wB.drew.cell? ⟨E, 2, none⟩ = some (.int .i64 h) :=
          ⟨grownBy_drew ck.1, ck.2⟩
        go_wp2_with fail
        go_region_held3 (fun w' => w9.grownBy w' none ∧ w'.cell? ⟨B, 0, none⟩ = some (.int .i64 i) ∧ w'.cell? ⟨B, 1, none⟩ = some (.slice ca 35 cc) ∧ w'.cell? ⟨B, 2, none⟩ = some (.slice pa h pc) ∧ w'.cell? ⟨E, 0, none⟩ = some (.string O) ∧ w'.cell? ⟨E, 1, none⟩ = some (.string R) ∧ w'.cell? ⟨E, 2, none⟩ = some (.int .i64 h)) (first | exact ck | exact ck)
          (first
            | (go_at_call 23; (with_reducible refine (hpbl.out _ (HR9.out.grown ck.1)).mono ?_); rintro e wC ⟨rfl, g9⟩; have ck := six_keep ck g9)
            | (go_at_call 12; (with_reducible refine (hclm.out _ (grownBy_trans HG9.out ck.1) (HR9.out.grown ck.1)).mono ?_); rintro e wC ⟨rfl, g9⟩; have ck := six_keep ck g9))
        have GF := Lib.hid (grownBy_trans G6.out (grownBy_trans HG9.out ck.1))
        clear ck
        go_wp2_with fail
        go_ret
        exact ⟨rfl, GF.out⟩
      · have d1 : (N : Int) ≤ n1 := by omega
        go_wp2_with fail
        refine (xsign_spent b s y h n1 (by rw [HN.out]; exact d1) w5 HK5.out).mono ?_
        rintro e w6 ⟨rfl, g6⟩
        have G6 := Lib.hid (grownBy_trans G5.out g6)
        clear g6
        unfold sigZ sigV
        go_wp2_with fail
        go_ret
        exact ⟨by show Ending.returned (Value.bool (!decide (n1 < 0))) = _; rw [decide_eq_false (by omega)]; rfl, grownBy_alloc' G6.out _⟩

theorem xmssSigns_below (seed m : ByteArray) (l : List Int) (hs : seed.size ≤ maxLen) (hm : m.size ≤ maxLen) (hl : l.length = 2) (hz : ∀ y ∈ l, (Lit.int .i8 y).wf = true) (w : World) (hr : ShaReady w) :
    Calls Tryd.prog 6 #[.string seed, .string m, .agg (l.map (Value.int .i8)).toArray] w fun e w' => e = .returned (.bool true) ∧ Below w.heap.size w w' :=
  (xmssSigns_walk seed m l hs hm hl hz w hr).mono fun e w' q => ⟨q.1, below_grownBy q.2⟩
end Go.Proofs.YtmdogeampigfoaaDoor
