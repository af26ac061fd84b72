/- The walk of the law SignerOnce. -/
import Derived.Test.YtbakhdbnfmoceaaGreatDoorSigOnce
import Derived.Maps.AppendAt
import Derived.Deep.DeepCutAuto
import Derived.Deep.CutBlock
import Derived.Deep.RegionWith
import Derived.Deep.RegionHeld3
namespace Go.Proofs.YtbakhdbnfmoceaaGreatDoor
open Go.RowKit
attribute [local irreducible] shaL

theorem actByte_at {w : World} {a : Option Addr} {n c : Nat} {l : List UInt8} (h : BytesAt w (.slice a n c) l) (w' : World) (hb : Below w.heap.size w w') (i : Nat) (hi : i < n) : ∃ g o x, a = some ⟨g, o, none⟩ ∧ w'.cell? ⟨g, o + i, none⟩ = some (.int .u8 (UInt8.toNat x)) := by
  obtain ⟨a', c', e, h⟩ := h
  injection e with e1 e2 _
  subst e2
  obtain ⟨g, o, e3, h1⟩ := h i hi
  exact ⟨g, o, l[i], by rw [e1, e3], (hb.cell (cell_lt h1)).trans h1⟩
theorem msgText_at {w : World} {a : Option Addr} {n c : Nat} {L : List ByteArray} (h : StrsAt w (.slice a n c) L) (hs : ∀ s ∈ L, s.size ≤ maxLen) (w' : World) (hb : Below w.heap.size w w') (i : Nat) (hi : i < n) : ∃ g o x, a = some ⟨g, o, none⟩ ∧ x.size ≤ maxLen ∧ w'.cell? ⟨g, o + i, none⟩ = some (.string x) := by
  obtain ⟨a', c', e, h⟩ := h
  injection e with e1 e2 _
  subst e2
  obtain ⟨g, o, e3, h1⟩ := h i hi
  exact ⟨g, o, L[i], by rw [e1, e3], hs _ (List.getElem_mem _), (hb.cell (cell_lt h1)).trans h1⟩
theorem pub_ck {w w' : World} {A : Nat} {x0 x1 x2 : Value} (k : w.grownBy w' none) (h : w.cell? ⟨A, 0, none⟩ = some x0 ∧ w.cell? ⟨A, 1, none⟩ = some x1 ∧ w.cell? ⟨A, 2, none⟩ = some x2) :
    w'.cell? ⟨A, 0, none⟩ = some x0 ∧ w'.cell? ⟨A, 1, none⟩ = some x1 ∧ w'.cell? ⟨A, 2, none⟩ = some x2 := ⟨k.cell h.1 (by simp), k.cell h.2.1 (by simp), k.cell h.2.2 (by simp)⟩
theorem and7_all : ((List.range 256).all fun k => (bits .and .u8 (k : Int) 7 == ((k % 8 : Nat) : Int)) && (bits .and .u8 (k : Int) 3 == ((k % 4 : Nat) : Int))) = true := by decide +kernel
theorem and7_u8 (n : Nat) (h : n < 256) : bits .and .u8 (n : Int) 7 = ((n % 8 : Nat) : Int) ∧ bits .and .u8 (n : Int) 3 = ((n % 4 : Nat) : Int) := by
  have := List.all_eq_true.1 and7_all n (List.mem_range.2 h)
  simpa using this
set_option maxRecDepth 100000 in
set_option maxHeartbeats 8000000 in
theorem signerOnce_walk (bs ks : List UInt8) (ms : List ByteArray) (aa ma ka : Option Addr) (an mn kn ac mc kc : Nat) (w : World) (hr : ShaReady w)
    (hA : BytesAt w (.slice aa an ac) bs) (hM : StrsAt w (.slice ma mn mc) ms) (hK : BytesAt w (.slice ka kn kc) ks) (hms : ∀ s ∈ ms, s.size ≤ maxLen) (han : an ≤ maxLen) (hmn : mn ≤ maxLen) (hkn : kn ≤ 140737488351232)
    (hka : ∀ g o, ka = some ⟨g, o, none⟩ → g < w.heap.size) :
    Calls Tryz.prog 3 #[.slice aa an ac, .slice ma mn mc, .slice ka kn kc] w fun e w' => e = .returned (.bool true) ∧ Below w.heap.size w w' := by
  have HSP := Lib.hid (sig_speaks w hr)
  have HR := Lib.hid hr
  have HSX := Lib.hid hr.lt
  have HA := Lib.hid hA
  have HM := Lib.hid (And.intro hM hms)
  have HK := Lib.hid (And.intro hK (And.intro hkn hka))
  have HNEW : Hid (∀ w1, w.grownBy w1 none → Calls Tryz.prog 6 #[.int .i64 10] w1 fun e w' => ∃ b, e = .returned (.tuple #[.pointer (some ⟨b, 0, none⟩), .int .i64 0]) ∧ KDisk w.heap.size [] w' b (newD 10) ∧ w1.grownBy w' none) :=
    fun w1 g => new_k (n0 := w.heap.size) (X := []) 10 (by decide) (by decide) w1 (by simp) g.size
  unfold maxLen at han hmn
  clear hr hA hM hK hms hkn hka
  go_enter Tryz.func3, Tryz.ntmps3
  go_wp2_with fail
  refine HSP.out.mono ?_
  rintro e w1 ⟨rfl, g1⟩
  go_wp2_with fail
  refine (HNEW.out w1 g1).mono ?_
  rintro e w2 ⟨b, rfl, hD, g2⟩
  have HG2 := Lib.hid (grownBy_trans g1 g2)
  have hop := sopen_full w.heap.size [] 10 w2 b 1 8 4 (newD 10) seedQ 3 (by decide) (by decide) hD (by simp) HG2.out.size rfl (by decide) (by decide) (by decide) (by decide) rfl (Nat.zero_le _) (HR.out.grown HG2.out)
  obtain ⟨o1, o2, o3⟩ := opened_new (newD 10) 0 0 state_new
  rw [o2, o3, o1] at hop
  have HOP := Lib.hid hop
  clear g1 g2 HNEW HSP hD hop o1 o2 o3
  go_wp2_with fail
  refine HOP.out.mono ?_
  rintro e w3 ⟨g3, ⟨q, _⟩ | ⟨_, sg, kb, lg, g, rfl, hM3, _, _, _⟩⟩
  · exact absurd rfl q
  have HG3 := Lib.hid (grownBy_trans HG2.out g3)
  have HPU := Lib.hid (spublic_any w3 sg kb lg _ _ seedQ 3 hM3.blk hM3.key)
  have HM3 := Lib.hid hM3
  clear hM3 g3 HOP HG2
  go_wp2_with fail
  refine HPU.out.mono ?_
  rintro e w4 ⟨rfl, g4⟩
  have HG4 := Lib.hid (grownBy_trans HG3.out g4)
  have HM4 := Lib.hid (HM3.out.more g4 (fun i hi => .inl hi))
  clear g4 HPU HM3 HG3
  unfold pubV
  obtain ⟨OO, hOO⟩ : ∃ x, openS seedQ = x := ⟨_, rfl⟩
  obtain ⟨RR, hRR⟩ : ∃ x, rootK seedQ 3 = x := ⟨_, rfl⟩
  rw [hOO, hRR]
  go_wp2_with fail
  have HOO := Lib.hid (And.intro hOO hRR)
  have ha5 : w4.grownBy (w4.alloc (.cells #[.string OO, .string RR, .int .i64 3] 33)) none := World.grownBy_alloc _ _ _
  obtain ⟨PB, hPB⟩ : ∃ PB, w4.heap.size = PB := ⟨_, rfl⟩
  have hp5 : (w4.alloc (.cells #[.string OO, .string RR, .int .i64 3] 33)).heap[PB]? = some (.cells #[.string OO, .string RR, .int .i64 3] 33 (0, 0)) := heap_alloc_at _ _ _ hPB
  rw [hPB]
  generalize w4.alloc (.cells #[.string OO, .string RR, .int .i64 3] 33) = w5 at ha5 hp5 ⊢
  have HAT : Hid (OnceAt w.heap.size w w5 PB b sg kb lg g (.slice none 0 0) [] 0 0 (newD 10)) := by
    refine Lib.hid ⟨⟨below_grownBy (grownBy_trans HG4.out ha5), by rw [hOO, hRR]; exact hp5, by rw [← hPB]; exact HG4.out.size, World.ownsRow_nil _ _ _ _, (fun x hx => by simp [ownB, Value.ownBlock] at hx), Nat.le_refl _, (fun x hx => by cases hx), List.Pairwise.nil⟩, HM4.out.more ha5 (fun i hi => .inr ?_), state_new, rfl, by show (-1 : Int) ≤ 3; decide, Nat.zero_le _⟩
    simp [ownB, Value.ownBlock] at hi
    omega
  clear hOO hRR ha5 hp5 hPB HM4 HG4
  go_loopw [9, 12, 13] (fun sv uv iv wr => ∃ (k sg kb lg g : Nat) (ua : Option Addr) (un uc : Nat) (U : List Int) (m t : Nat) (D : DiskS), k ≤ 24 ∧ iv = .int .i64 k ∧ sv = .pointer (some ⟨sg, 0, none⟩) ∧ uv = .slice ua un uc ∧ Hid (OnceAt w.heap.size w wr PB b sg kb lg g (.slice ua un uc) U m t D)) (fun _ _ iv _ => 24 - (intOf iv).toNat)
  case atStart => exact ⟨0, sg, kb, lg, g, none, 0, 0, [], 0, 0, newD 10, by decide, rfl, rfl, rfl, HAT.out⟩
  case round =>
    clear HAT
    obtain ⟨k, sg, kb, lg, g, ua, un, uc, U, m, t, D, hk, rfl, rfl, rfl, HAT⟩ := hrel
    by_cases hlm : k < an ∧ k < 24
    · obtain ⟨hm1, hm2⟩ := hlm
      have q1 : (k : Int) < (an : Int) := by omega
      have q2 : (k : Int) < 24 := by omega
      have q0 : (0 : Int) ≤ (k : Int) := by omega
      go_upto_if 48 with (fail)
      go_cut [14] (fun sv wy => ∃ tx : ByteArray, tx.size ≤ 20 ∧ sv = .string tx ∧ Hid (wr.grownBy wy none))
      case first =>
        by_cases hkm : k < mn
        · have q3 : (k : Int) < (mn : Int) := by omega
          obtain ⟨gm, om, x, rfl, hx1, c1⟩ := msgText_at HM.out.1 HM.out.2 wr HAT.out.stay.bel k hkm
          unfold maxLen at hx1
          by_cases hz : x.size ≤ 20
          · have hz2 : (x.size : Int) ≤ 20 := by omega
            go_wp2_with fail
            go_region
            all_goals
              go_wp2_with fail
              go_meet
              case rel => exact ⟨_, by first | exact hz | (rw [ByteArray.size_extract]; omega), rfl, grownBy_drewN (World.grownBy.refl _ _) 1⟩
          · have hz2 : ¬ (x.size : Int) ≤ 20 := by omega
            have hz3 : (20 : Int) < (x.size : Int) := by omega
            have hz4 : (20 : Int) ≤ (x.size : Int) := by omega
            go_wp2_with fail
            go_region
            all_goals
              go_wp2_with fail
              go_meet
              case rel => exact ⟨_, by rw [ByteArray.size_extract]; omega, rfl, grownBy_drewN (World.grownBy.refl _ _) 1⟩
        · have q3 : ¬ (k : Int) < (mn : Int) := by omega
          go_wp2_with fail
          go_meet
          case rel => exact ⟨_, by decide, rfl, World.grownBy.refl _ _⟩
      case rest =>
        obtain ⟨tx, htx, rfl, HGX⟩ := hcut
        have HAT2 : Hid (OnceAt w.heap.size w wc PB b sg kb lg g (.slice ua un uc) U m t D) := Lib.hid (HAT.out.grown HGX.out)
        clear HAT HGX
        obtain ⟨ga, oa, x, rfl, c1⟩ := actByte_at HA.out wc HAT2.out.stay.bel k hm1
        have hx256 := x.toNat_lt
        obtain ⟨q, hq⟩ : ∃ q : Nat, bits .and .u8 (x.toNat : Int) 7 = (q : Int) := ⟨_, (and7_u8 x.toNat hx256).1⟩
        obtain ⟨y, hy, hy256⟩ : ∃ y : Nat, (x.toNat : Int) / 8 = (y : Int) ∧ y < 256 := ⟨x.toNat / 8, by omega, by omega⟩
        obtain ⟨r, hr3, hr⟩ : ∃ r : Nat, r ≤ 3 ∧ bits .and .u8 (y : Int) 3 = (r : Int) := ⟨_, by omega, (and7_u8 y hy256).2⟩
        have hrb : (0 : Int) ≤ (r : Int) ∧ (r : Int) ≤ 3 := ⟨by omega, by omega⟩
        go_upto_if 65 with (fail)
        go_cut [] (fun wy => ∃ D, Hid (OnceAt w.heap.size w wy PB b sg kb lg g (.slice ua un uc) U m t D))
        case first =>
          have HFU := Lib.hid (fuse_once w.heap.size w wc PB b sg kb lg g (.slice ua un uc) U m t D HAT2.out r hrb ka kn kc ks (HK.out.1.below HAT2.out.stay.bel (fun a c e g o e2 => by injection e with e1 _ _; exact HK.out.2.2 g o (e1.trans e2))) HK.out.2.1 HK.out.2.2 HAT2.out.sig.key.lt.1)
          by_cases h7 : q = 7
          · have e7 : ((q : Int) == 7) = true := by rw [h7]; rfl
            clear h7
            go_wp2_with fail
            refine HFU.out.mono ?_
            rintro e w6 ⟨rfl, h6⟩
            have H6 := Lib.hid h6
            clear h6
            go_wp2_with fail
            go_meet
            case rel => exact ⟨_, H6.out⟩
          · have e7 : ((q : Int) == 7) = false := by simp; omega
            clear h7
            go_wp2_with fail
            go_meet
            case rel => exact ⟨_, HAT2.out⟩
        case rest =>
          clear HAT2 c1 hq hy hr hrb hy256 hx256
          obtain ⟨D, HAT⟩ := hcut
          have HNX := Lib.hid (snext_any wc sg _ _ m HAT.out.sig.blk)
          have HSG := Lib.hid (sign_once w.heap.size w wc PB b sg kb lg g (.slice ua un uc) U m t D HAT.out tx htx (HR.out.grown (grownBy_below HAT.out.stay.bel)) (fun h => by have := HSX.out.1; omega) (fun h => by have := HSX.out.2; omega))
          go_wp2_with fail
          refine HNX.out.mono ?_
          rintro e w6 ⟨rfl, rfl⟩
          go_wp2_with fail
          refine HSG.out.mono ?_
          rintro e w7 ⟨i7, ca, pa, cn, cc, pn, pc, f, rfl, hsg⟩
          have HSGN := Lib.hid hsg
          clear hsg HSG HNX HAT
          go_upto_block 2 with (fail)
          obtain ⟨SB, hSB⟩ : ∃ SB, w7.heap.size = SB := ⟨_, rfl⟩
          rw [hSB] at HSGN ⊢
          generalize w7.alloc (.cells #[.int .i64 i7, .slice ca cn cc, .slice pa pn pc] 40) = wq at HSGN ⊢
          clear hSB
          go_cut [12] (fun uv wy => ∃ (ua : Option Addr) (un uc : Nat) (U : List Int) (m' t : Nat) (B : BookS) (D : DiskS) (next : Nat), m ≤ m' ∧ uv = .slice ua un uc ∧ Hid (OnceBe w.heap.size w wy PB b sg kb lg g (.slice ua un uc) U m' t B D next))
          case first =>
            rcases HSGN.out with ⟨g8, rfl, hz, t, D, hA⟩ | ⟨l8, rfl, ca', cc', pa', pc', t, D, hz, hc, hp, hS, hM, hst, hon, hfu, hke, hSBn, hcn, hpn⟩ | ⟨l8, rfl, hz, m', t', B, D, hle, hB⟩
            · have d8 : (8 : Int) ≤ (m : Int) := by omega
              have z1 := cell_of hz 1
              simp at z1
              have HB := Lib.hid hA.be
              clear hA hz HSGN g8
              go_wp2_with fail
              go_meet
              case rel => exact ⟨ua, un, uc, U, m, t, _, D, m, Nat.le_refl _, rfl, HB.out⟩
            · have d8 : ¬ (8 : Int) ≤ (m : Int) := by omega
              have d8' : (m : Int) < 8 := by omega
              obtain ⟨n1, hn1⟩ : ∃ n1, m + 1 = n1 := ⟨_, rfl⟩
              have hplus : (m : Int) + 1 = (n1 : Int) := by omega
              obtain ⟨i0, hti, hz0, hz1, hz2⟩ := info_parts infoIntD
              have hun : un = U.length := by
                rcases own_form hS.used with ⟨e, h0⟩ | ⟨_, _, e⟩
                · injection e with _ e _; omega
                · injection e with _ e _
              have HOW := Lib.hid hS.used
              have HS := Lib.hid (And.intro hS (And.intro hM hst))
              have HD := Lib.hid (And.intro hon (And.intro hfu hke))
              have HT := Lib.hid (And.intro hc hp)
              have HN := Lib.hid (And.intro hSBn (And.intro hcn hpn))
              have HZ := Lib.hid hz
              have z0 := cell_of hz 0
              simp at z0
              have HUN := Lib.hid (And.intro hun (And.intro hS.few l8))
              clear hS hM hst hon hfu hke hc hp hSBn hcn hpn hz HSGN hun l8
              go_wp2_with (at_builtin; refine wpList_append_own_at _ rfl _ _ 35 rfl (PB + 1) 3 i0 (.int .i64 0) 1 8 Tryz.underlying35 hti hz0 hz1 hz2 rfl (by decide) _ _ _ rfl (HOW.out.alloc _) ⟨wq.heap.size, 0, none⟩ 1 1 [.int .i64 m] rfl rfl ?q1 ?q2 ?q3 ?q4 ?q5 ?_)
              case q2 => first | rfl | (intro u hu; simp at hu; subst hu; rfl)
              case q3 => have := HUN.out; unfold maxLen; omega
              case q4 => have := HUN.out; omega
              case q5 =>
                have h1 := (Array.getElem?_eq_some_iff.1 HS.out.1.pub).1
                first | (simp; omega) | omega
              intro v' w' ho hg _ hat
              have hg2 : wq.grownBy w' (Value.slice ua un uc).ownBlock := (World.grownBy_alloc wq _ _).trans hg
              have hv' : ∀ x, v'.ownBlock = some x → (Value.slice ua un uc).ownBlock = some x ∨ wq.heap.size ≤ x := by
                intro x e
                rcases hat with q | q
                · exact .inl (q.symm.trans e)
                · rw [q] at e
                  injection e with e
                  right
                  rw [← e]
                  simp
              have ho2 : w'.ownsRow (PB + 1) 3 1 v' (U ++ [(m : Int)]).length (ints (U ++ [(m : Int)])) := by
                rw [ints_append, List.length_append]
                exact ho
              obtain ⟨ua2, un2, uc2, rfl⟩ : ∃ a n c, v' = .slice a n c := by rcases own_form ho2 with ⟨rfl, _⟩ | ⟨_, _, rfl⟩ <;> exact ⟨_, _, _, rfl⟩
              have HADD := Lib.hid (HS.out.1.add HS.out.2.1 hg2 ho2 hv')
              have tt : Turn (fun i => i ∈ ownB (.slice ua un uc)) wq w' := (Turn.refl _ wq).row hg2 (fun i _ e => ownB_mem.2 e)
              have hz' := tt.heap HZ.out HN.out.1
              have HT2 := Lib.hid (And.intro (HT.out.1.turned tt (fun x e => HN.out.2.1 x e)) (HT.out.2.turned tt (fun x e => HN.out.2.2 x e)))
              have y0 := cell_of hz' 0
              have y1 := cell_of hz' 1
              have y2 := cell_of hz' 2
              simp at y0 y1 y2
              have hp' := HADD.out.1.pub
              rw [HOO.out.1, HOO.out.2] at hp'
              have p0 := cell_of hp' 0
              have p1 := cell_of hp' 1
              have p2 := cell_of hp' 2
              simp at p0 p1 p2
              have hnx := snext_any w' sg _ _ (m + 1) HADD.out.2.blk
              rw [hn1] at hnx
              have HNX := Lib.hid hnx
              have HVE : Hid (Calls Tryz.prog 12 #[.agg #[.string OO, .string RR, .int .i64 3], .string tx, .agg #[.int .i64 m, .slice ca' 35 cc', .slice pa' 3 pc']] w' fun e w'' => e = .returned (.bool true) ∧ w'.grownBy w'' none) := by
                have := vown seedQ tx 3 m (by decide) (by have := HUN.out; show m < 8; omega) (by omega) ca' cc' pa' pc' w' HT2.out.1 HT2.out.2 (HR.out.grown (grownBy_below HADD.out.1.bel))
                rw [HOO.out.1, HOO.out.2] at this
                exact this
              have HFIN : Hid (∀ w'', w'.grownBy w'' none → OnceBe w.heap.size w w'' PB b sg kb lg g (.slice ua2 un2 uc2) (U ++ [(m : Int)]) (m + 1) t (stB (m + 1)) D (m + 1)) := Lib.hid (fun w'' k => OnceBe.grown ⟨HADD.out.1, HADD.out.2, HS.out.2.2, HD.out.2.1, HD.out.2.2, fun _ => ⟨rfl, rfl⟩⟩ k)
              clear ho hg hg2 hv' ho2 hat tt hz' hp' hnx HADD HOW HS HT HN HZ HT2 hn1 z0
              by_cases h3 : k < 3
              · have d3 : (k : Int) < 3 := by omega
                go_wp2_with fail
                refine HNX.out.mono ?_
                rintro e w8 ⟨rfl, rfl⟩
                go_wp2_with fail
                refine HVE.out.mono ?_
                rintro e w9 ⟨rfl, g9⟩
                have HF := Lib.hid (HFIN.out w9 g9)
                clear g9
                go_wp2_with fail
                go_meet
                case rel => exact ⟨ua2, un2, uc2, _, m + 1, t, _, D, m + 1, by omega, rfl, HF.out⟩
              · have d3 : ¬ (k : Int) < 3 := by omega
                go_wp2_with fail
                refine HNX.out.mono ?_
                rintro e w8 ⟨rfl, rfl⟩
                have HF := Lib.hid (HFIN.out w' (World.grownBy.refl _ _))
                go_wp2_with fail
                go_meet
                case rel => exact ⟨ua2, un2, uc2, _, m + 1, t, _, D, m + 1, by omega, rfl, HF.out⟩
            · have d8 : ¬ (8 : Int) ≤ (m : Int) := by omega
              have d8' : (m : Int) < 8 := by omega
              have z1 := cell_of hz 1
              simp at z1
              have HB := Lib.hid hB
              clear hB hz HSGN l8
              go_wp2_with fail
              go_meet
              case rel => exact ⟨ua, un, uc, U, m', t', B, D, m, hle, rfl, HB.out⟩
          case rest =>
            clear HSGN
            obtain ⟨ua, un, uc, U, m', t, B, D, next, hmle, rfl, HBE⟩ := hcut
            obtain ⟨ga', oa', x, e, c1⟩ := actByte_at HA.out wc HBE.out.stay.bel k hm1
            cases e
            obtain ⟨q, hq⟩ : ∃ q : Nat, bits .and .u8 (x.toNat : Int) 7 = (q : Int) := ⟨_, (and7_u8 x.toNat x.toNat_lt).1⟩
            have HON : Hid (Calls Tryz.prog 13 #[.pointer (some ⟨b, 0, none⟩)] wc fun e w' => e = .returned (.bool D.on) ∧ wc = w') := by
              obtain ⟨Y, hd, _⟩ := HBE.out.sig.disked
              exact Lib.hid (on_at _ b D wc hd)
            cases hon : D.on
            · rw [hon] at HON
              clear hon hq c1
              go_wp2_with fail
              refine HON.out.mono ?_
              rintro e w5 ⟨rfl, rfl⟩
              go_wp2_with fail
              refine (cut_once w.heap.size w wc PB b sg kb lg g (.slice ua un uc) U m' t B D next HBE.out).mono ?_
              rintro e w6 ⟨rfl, h6⟩
              have H6 := Lib.hid h6
              clear h6
              go_wp2_with fail
              refine (start_once w.heap.size w w6 PB b sg kb lg g (.slice ua un uc) U m' t B _ next H6.out).mono ?_
              rintro e w7 ⟨rfl, h7, hM7⟩
              have H7 := Lib.hid (And.intro h7 (And.intro hM7 (show StateD m' t { { cutD D [] with on := false } with on := true } from ⟨H6.out.st.last, H6.out.st.wait, H6.out.st.le, H6.out.st.ne⟩)))
              clear h7 hM7
              go_wp2_with fail
              refine (open_once w.heap.size w w7 PB b sg kb lg g (.slice ua un uc) U m' t B _ next H7.out.1 H7.out.2.1 H7.out.2.2 rfl (by show (-1 : Int) ≤ 3; decide) (Nat.zero_le _) (HR.out.grown (grownBy_below H7.out.1.bel))).mono ?_
              rintro e w8 ⟨sg2, kb2, lg2, g2, rfl, h8⟩
              have H8 := Lib.hid h8
              have hp8 := h8.stay.pub
              rw [HOO.out.1, HOO.out.2] at hp8
              have HPB := Lib.hid hp8
              have HPU : Hid (∀ w', w8.grownBy w' none → Calls Tryz.prog 8 #[.pointer (some ⟨sg2, 0, none⟩)] w' fun e w'' => e = .returned (.agg #[.string OO, .string RR, .int .i64 3]) ∧ w'.grownBy w'' none) := Lib.hid (fun w' k => by
                have := spublic_any w' sg2 kb2 lg2 _ _ seedQ 3 (k.heap H8.out.sig.blk (by simp)) (H8.out.sig.key.turn (Turn.of_grown k (S := fun _ => False)) (fun q => q) (fun q => q))
                rw [HOO.out.1, HOO.out.2] at this
                exact this)
              have HNX : Hid (∀ w', w8.grownBy w' none → Calls Tryz.prog 10 #[.pointer (some ⟨sg2, 0, none⟩)] w' fun e w'' => e = .returned (.int .i64 m') ∧ w' = w'') := Lib.hid (fun w' k => snext_any w' sg2 _ _ m' (k.heap H8.out.sig.blk (by simp)))
              have p0 := cell_of hp8 0
              have p1 := cell_of hp8 1
              have p2 := cell_of hp8 2
              simp at p0 p1 p2
              have P3 := And.intro p0 (And.intro p1 p2)
              have HP3 := Lib.hid P3
              have hmm1 : ((m' : Int) < (m : Int)) = False := by simpa using hmle
              have hmm2 : decide ((m' : Int) < (m : Int)) = false := by simpa using hmle
              clear h8 hp8 H6 H7 HBE P3
              go_wp2_with fail
              go_region_held3 (fun w' => w'.cell? ⟨PB, 0, none⟩ = some (.string OO) ∧ w'.cell? ⟨PB, 1, none⟩ = some (.string RR) ∧ w'.cell? ⟨PB, 2, none⟩ = some (.int .i64 3)) (first | exact ck.2 | exact HP3.out)
                (first
                  | (go_at_call 8; (with_reducible refine (HPU.out _ ck.1).mono ?_); rintro e w4 ⟨rfl, g4⟩; have ck := And.intro (grownBy_trans ck.1 g4) (pub_ck g4 ck.2))
                  | (go_at_call 8; (with_reducible refine (HPU.out _ (grownBy_drew (World.grownBy.refl _ _))).mono ?_); rintro e w4 ⟨rfl, g4⟩; have ck := And.intro (grownBy_trans (grownBy_drew (World.grownBy.refl w8 none)) g4) (pub_ck g4 HP3.out))
                  | (go_at_call 10; (with_reducible refine (HNX.out _ ck.1).mono ?_); rintro e w4 ⟨rfl, rfl⟩)
                  | (go_at_call 10; (with_reducible refine (HNX.out _ (grownBy_drew (World.grownBy.refl _ _))).mono ?_); rintro e w4 ⟨rfl, rfl⟩; have ck := And.intro (grownBy_drew (World.grownBy.refl w8 none)) HP3.out))
              go_wp2_with fail
              go_roundw
              case rel => exact ⟨k + 1, sg2, kb2, lg2, g2, ua, un, uc, U, m', t, _, by omega, by go_num, rfl, rfl, H8.out.grown ck.1⟩
              case measure => simp [intOf]; omega
            · have HON1 := Lib.hid hon
              rw [hon] at HON
              clear hon
              go_wp2_with fail
              refine HON.out.mono ?_
              rintro e w5 ⟨rfl, rfl⟩
              by_cases h6 : q = 6
              · have e6 : ((q : Int) == 6) = true := by rw [h6]; rfl
                clear h6
                go_wp2_with fail
                refine (cut_once w.heap.size w wc PB b sg kb lg g (.slice ua un uc) U m' t B D next HBE.out).mono ?_
                rintro e w6 ⟨rfl, h6⟩
                have H6 := Lib.hid h6
                clear h6
                go_wp2_with fail
                refine (start_once w.heap.size w w6 PB b sg kb lg g (.slice ua un uc) U m' t B _ next H6.out).mono ?_
                rintro e w7 ⟨rfl, h7, hM7⟩
                have H7 := Lib.hid (And.intro h7 (And.intro hM7 (show StateD m' t { { cutD D [] with on := false } with on := true } from ⟨H6.out.st.last, H6.out.st.wait, H6.out.st.le, H6.out.st.ne⟩)))
                clear h7 hM7
                go_wp2_with fail
                refine (open_once w.heap.size w w7 PB b sg kb lg g (.slice ua un uc) U m' t B _ next H7.out.1 H7.out.2.1 H7.out.2.2 rfl (by show (-1 : Int) ≤ 3; decide) (Nat.zero_le _) (HR.out.grown (grownBy_below H7.out.1.bel))).mono ?_
                rintro e w8 ⟨sg2, kb2, lg2, g2, rfl, h8⟩
                have H8 := Lib.hid h8
                have hp8 := h8.stay.pub
                rw [HOO.out.1, HOO.out.2] at hp8
                have HPB := Lib.hid hp8
                have HPU : Hid (∀ w', w8.grownBy w' none → Calls Tryz.prog 8 #[.pointer (some ⟨sg2, 0, none⟩)] w' fun e w'' => e = .returned (.agg #[.string OO, .string RR, .int .i64 3]) ∧ w'.grownBy w'' none) := Lib.hid (fun w' k => by
                  have := spublic_any w' sg2 kb2 lg2 _ _ seedQ 3 (k.heap H8.out.sig.blk (by simp)) (H8.out.sig.key.turn (Turn.of_grown k (S := fun _ => False)) (fun q => q) (fun q => q))
                  rw [HOO.out.1, HOO.out.2] at this
                  exact this)
                have HNX : Hid (∀ w', w8.grownBy w' none → Calls Tryz.prog 10 #[.pointer (some ⟨sg2, 0, none⟩)] w' fun e w'' => e = .returned (.int .i64 m') ∧ w' = w'') := Lib.hid (fun w' k => snext_any w' sg2 _ _ m' (k.heap H8.out.sig.blk (by simp)))
                have p0 := cell_of hp8 0
                have p1 := cell_of hp8 1
                have p2 := cell_of hp8 2
                simp at p0 p1 p2
                have P3 := And.intro p0 (And.intro p1 p2)
                have HP3 := Lib.hid P3
                have hmm1 : ((m' : Int) < (m : Int)) = False := by simpa using hmle
                have hmm2 : decide ((m' : Int) < (m : Int)) = false := by simpa using hmle
                clear h8 hp8 H6 H7 HBE P3
                go_wp2_with fail
                go_region_held3 (fun w' => w'.cell? ⟨PB, 0, none⟩ = some (.string OO) ∧ w'.cell? ⟨PB, 1, none⟩ = some (.string RR) ∧ w'.cell? ⟨PB, 2, none⟩ = some (.int .i64 3)) (first | exact ck.2 | exact HP3.out)
                  (first
                    | (go_at_call 8; (with_reducible refine (HPU.out _ ck.1).mono ?_); rintro e w4 ⟨rfl, g4⟩; have ck := And.intro (grownBy_trans ck.1 g4) (pub_ck g4 ck.2))
                    | (go_at_call 8; (with_reducible refine (HPU.out _ (grownBy_drew (World.grownBy.refl _ _))).mono ?_); rintro e w4 ⟨rfl, g4⟩; have ck := And.intro (grownBy_trans (grownBy_drew (World.grownBy.refl w8 none)) g4) (pub_ck g4 HP3.out))
                    | (go_at_call 10; (with_reducible refine (HNX.out _ ck.1).mono ?_); rintro e w4 ⟨rfl, rfl⟩)
                    | (go_at_call 10; (with_reducible refine (HNX.out _ (grownBy_drew (World.grownBy.refl _ _))).mono ?_); rintro e w4 ⟨rfl, rfl⟩; have ck := And.intro (grownBy_drew (World.grownBy.refl w8 none)) HP3.out))
                go_wp2_with fail
                go_roundw
                case rel => exact ⟨k + 1, sg2, kb2, lg2, g2, ua, un, uc, U, m', t, _, by omega, by go_num, rfl, rfl, H8.out.grown ck.1⟩
                case measure => simp [intOf]; omega
              · have e6 : ((q : Int) == 6) = false := by simp; omega
                clear h6
                go_wp2_with fail
                go_roundw
                case rel => exact ⟨k + 1, sg, kb, lg, g, ua, un, uc, U, m', t, D, by omega, by go_num, rfl, rfl, HBE.out.at_ HON1.out⟩
                case measure => simp [intOf]; omega
    · have hun : un = U.length ∧ un ≤ 8 := by
        have h1 := HAT.out.stay.few
        have h2 := HAT.out.st.le
        rcases own_form HAT.out.stay.used with ⟨e, h0⟩ | ⟨_, _, e⟩
        · injection e with _ e _; omega
        · injection e with _ e _; omega
      have hu8 : (un : Int) ≤ 8 := by omega
      have hus := HAT.out.stay.used
      rw [← hun.1] at hus
      have HTW := Lib.hid (twice_none ua un uc U wr (ints_of_own hus) (by omega) HAT.out.stay.incr)
      clear hun hus
      have hrest : (an : Int) ≤ (k : Int) ∨ ((k : Int) < (an : Int) ∧ (24 : Int) ≤ (k : Int)) := by omega
      rcases hrest with hh | ⟨h1, h2⟩
      · have q1 : ¬ (k : Int) < (an : Int) := by omega
        clear hh
        go_wp2_with fail
        refine HTW.out.mono ?_
        rintro e w6 ⟨rfl, g6⟩
        have G6 := Lib.hid (HAT.out.stay.bel.trans ((below_grownBy g6).mono HAT.out.stay.bel.size))
        clear g6
        go_wp2_with fail
        go_ret
        exact ⟨rfl, G6.out⟩
      · have q2 : ¬ (k : Int) < 24 := by omega
        clear h2
        go_wp2_with fail
        refine HTW.out.mono ?_
        rintro e w6 ⟨rfl, g6⟩
        have G6 := Lib.hid (HAT.out.stay.bel.trans ((below_grownBy g6).mono HAT.out.stay.bel.size))
        clear g6
        go_wp2_with fail
        go_ret
        exact ⟨rfl, G6.out⟩
end Go.Proofs.YtbakhdbnfmoceaaGreatDoor
