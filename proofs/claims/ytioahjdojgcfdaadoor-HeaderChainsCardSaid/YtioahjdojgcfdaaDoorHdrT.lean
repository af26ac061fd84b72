/- The walks of layer 19's laws' told and plain. -/
import Derived.Test.YtioahjdojgcfdaaDoorHeaderChainsB4
import Derived.Test.YtioahjdojgcfdaaDoorHeaderChainsB2
import Derived.Test.YtioahjdojgcfdaaDoorHeaderChainsB6
import Derived.Test.YtioahjdojgcfdaaDoorHeaderChainsB3
import Derived.Deep.AppendLies
import Derived.Shelf.RegionOpen
namespace Go.Proofs.YtioahjdojgcfdaaDoor
open Go.RowKit
attribute [local irreducible] shaL

theorem and_seven (c : Nat) (h : c < 256) : bits .and .u8 (c : Int) 7 = ((c % 8 : Nat) : Int) := by
  rw [show (7 : Int) = ((7 : Nat) : Int) from rfl, u8_and_nat _ _ h (by omega)]
  have : c &&& 7 = c % 8 := Nat.and_two_pow_sub_one_eq_mod c 3
  rw [this]
theorem one_conv {w : World} {g : Nat} {z : Int} (c : Nat) (hc : c < 256) (hz : z = (c : Int)) (h : w.heap[g]? = some (.cells #[.int .u8 z] 5 (0, 0))) :
    (convert 57 9 (.slice (some ⟨g, 0, none⟩) 1 1)).run Tryd.prog w = .ok (.string (str [UInt8.ofNat c])) w := by
  subst hz
  have e : (#[.int .u8 (c : Int)] : Array Value) = (bytesV [UInt8.ofNat c]).toArray := by
    have h2 : (UInt8.ofNat c).toNat = c := by simp; omega
    simp only [bytesV, List.map, h2]
  rw [e] at h
  exact blk_str h 1
theorem results_told {n : Nat} {v0 v1 v2 v3 v4 : Value} {tmps : Array Value} {w : World} (h6 : tmps[2]? = some (.pointer (some ⟨n, 0, none⟩))) (hb : w.heap[n]? = some (.cells #[v0, v1, v2, v3, v4] 63 (0, 0))) :
    (results Tryd.f22 tmps).run Tryd.prog w = .ok (.agg #[v0, v1, v2, v3, v4]) w := by
  obtain ⟨c0, c1, c2, c3, c4⟩ := cells5 hb
  simp [results, Tryd.results22, go_sem, h6, c0, c1, c2, c3, c4]
def fifteen : ByteArray := ⟨#[0, 0, 0, 0, 0, 0, 0, 0, 0, 0, 0, 0, 0, 0, 0]⟩
theorem noughts_tail : (⟨#[0, 0, 0, 0, 0, 0, 0, 0, 0, 0, 0, 0, 0, 0, 0, 0]⟩ : ByteArray).extract 1 16 = fifteen := rfl
theorem drew_heapH {w : World} {b : Nat} {o : Obj} (h : w.heap[b]? = some o) : w.drew.heap[b]? = some o := h
set_option maxRecDepth 100000 in
set_option maxHeartbeats 3200000 in
theorem told_any (e : Nat) (p : ByteArray) (d a : Int) (N : ByteArray) (hp : p.size ≤ maxLen) (hN : N.size ≤ maxLen) (w : World) :
    Calls Tryd.prog 22 #[.agg #[.int .u64 e, .string p, .int .i64 d, .int .i64 a, .string N]] w fun r w' => ∃ (P : ByteArray) (L : List ByteArray) (v : Value), r = .returned ((⟨e, P, d, a, L⟩ : HdrS).val v) ∧ P.size ≤ 20 ∧ L.length ≤ 20 ∧ (∀ s ∈ L, s.size ≤ 17) ∧ w'.ownsRow w.heap.size 9 1 v L.length (strsV L) ∧ w.grownBy w' none := by
  obtain ⟨i0, hti, hz0, hz1, hz2⟩ := info_parts infoStrW
  unfold maxLen at hp hN
  obtain ⟨n, hn⟩ : ∃ n, w.heap.size = n := ⟨_, rfl⟩
  have hb0 := heap_alloc_at w (.cells #[.int .u64 e, .string p, .int .i64 d, .int .i64 a, .string N] 61) _ rfl
  have hg0 : w.grownBy (w.alloc (.cells #[.int .u64 e, .string p, .int .i64 d, .int .i64 a, .string N] 61)) none := World.grownBy_alloc _ _ _
  obtain ⟨W0, hW0⟩ : ∃ W0, w.alloc (.cells #[.int .u64 e, .string p, .int .i64 d, .int .i64 a, .string N] 61) = W0 := ⟨_, rfl⟩
  rw [hW0] at hb0 hg0
  rw [hn] at hb0
  have hs0 : W0.heap.size = n + 1 := by rw [← hW0, World.size_alloc, hn]
  have hb1 := heap_alloc_at W0 (.cells #[.int .u64 0, .string ⟨#[]⟩, .int .i64 0, .int .i64 0, .slice none 0 0] 63) _ hs0
  have hg1 : W0.grownBy (W0.alloc (.cells #[.int .u64 0, .string ⟨#[]⟩, .int .i64 0, .int .i64 0, .slice none 0 0] 63)) none := World.grownBy_alloc _ _ _
  obtain ⟨W1, hW1⟩ : ∃ W1, W0.alloc (.cells #[.int .u64 0, .string ⟨#[]⟩, .int .i64 0, .int .i64 0, .slice none 0 0] 63) = W1 := ⟨_, rfl⟩
  rw [hW1] at hb1 hg1
  have hs1 : W1.heap.size = n + 2 := by rw [← hW1, World.size_alloc, hs0]
  have S1 := Lib.hid (And.intro (grownBy_trans hg0 hg1) (And.intro (hg1.heap hb0 (by simp)) hb1))
  have HW := Lib.hid (And.intro hW0 (And.intro hs0 (And.intro hW1 (And.intro hs1 hn))))
  obtain ⟨x0, x1, x2, x3, x4⟩ := cells5 S1.out.2.1
  clear hb0 hg0 hW0 hb1 hg1 hW1 hn hs0 hs1
  go_enter Tryd.func22, Tryd.ntmps22
  go_upto_region 1 with (first | rw [HW.out.1, HW.out.2.1] | rw [HW.out.1, HW.out.2.2.2.2] | rw [HW.out.2.2.1, HW.out.2.2.2.1] | rw [HW.out.2.2.1] | rw [HW.out.1])
  rw [HW.out.2.1]
  go_cut [3] (fun hv wx => ∃ P : ByteArray, hv = .pointer (some ⟨n + 2, 0, none⟩) ∧ P.size ≤ 20 ∧ Hid (wx.heap[n + 2]? = some (.cells #[.int .u64 e, .string P, .int .i64 d, .int .i64 a, .slice none 0 0] 63 (0, 0)) ∧ wx.heap[n + 1]? = some (.cells #[.int .u64 0, .string ⟨#[]⟩, .int .i64 0, .int .i64 0, .slice none 0 0] 63 (0, 0)) ∧ wx.heap[n]? = some (.cells #[.int .u64 e, .string p, .int .i64 d, .int .i64 a, .string N] 61 (0, 0)) ∧ w.grownBy wx none))
  case rest =>
    as_aux_lemma =>
      rename World => wx
      obtain ⟨P, rfl, hP, H2⟩ := hcut
      have HP := Lib.hid hP
      clear hP x0 x1 x2 x3 x4 S1
      go_wp2_with fail
      go_loopw [4] (fun iv wr => ∃ (i : Nat) (L : List ByteArray) (v : Value), i ≤ 20 ∧ iv = .int .i64 i ∧ Hid (L.length = i ∧ ∀ s ∈ L, s.size ≤ 17) ∧ Hid (wr.ownsRow (n + 3) 9 1 v L.length (strsV L)) ∧ Hid (wr.heap[n + 2]? = some (.cells #[.int .u64 e, .string P, .int .i64 d, .int .i64 a, v] 63 (0, 0)) ∧ wr.heap[n + 1]? = some (.cells #[.int .u64 0, .string ⟨#[]⟩, .int .i64 0, .int .i64 0, .slice none 0 0] 63 (0, 0)) ∧ wr.heap[n]? = some (.cells #[.int .u64 e, .string p, .int .i64 d, .int .i64 a, .string N] 61 (0, 0)) ∧ w.grownBy wr none)) (fun iv _ => 20 - (intOf iv).toNat)
      case atStart => exact ⟨0, [], .slice none 0 0, Nat.zero_le _, rfl, Lib.hid ⟨rfl, fun s hs => by cases hs⟩, World.ownsRow_nil _ _ _ _, H2.out⟩
      case round =>
        clear H2
        obtain ⟨i, L, v, hi, rfl, HL, HO, HH⟩ := hrel
        obtain ⟨x0, x1, x2, x3, x4⟩ := cells5 HH.out.2.2.1
        obtain ⟨y0, y1, y2, y3, y4⟩ := cells5 HH.out.1
        by_cases hlt : i < N.size ∧ i < 20
        · have e1 : (i : Int) < (N.size : Int) := by omega
          have e2 : (i : Int) < 20 := by omega
          have e0 : (0 : Int) ≤ (i : Int) := by omega
          have hiN : i < N.size := hlt.1
          obtain ⟨c, hc⟩ : ∃ c, (N[i]).toNat = c := ⟨_, rfl⟩
          have hc256 : c < 256 := by rw [← hc]; exact (N[i]).toNat_lt
          have h7 := and_seven c hc256
          obtain ⟨m, hm⟩ : ∃ m, c % 8 = m := ⟨_, rfl⟩
          have hm8 : m < 8 := by omega
          rw [hm] at h7
          obtain ⟨NB, hNB⟩ : ∃ NB, wr.heap.size = NB := ⟨_, rfl⟩
          have HNB := Lib.hid hNB
          have hcv : ∀ (k1 k2 : Nat), k1 < 256 → k2 < 256 → (convert 57 9 (.slice (some ⟨NB, 0, none⟩) 1 1)).run Tryd.prog (wr.alloc (.cells #[.int .u8 k1] 5)).drew = .ok (.string (str [UInt8.ofNat k1])) (wr.alloc (.cells #[.int .u8 k1] 5)).drew ∧ (convert 57 9 (.slice (some ⟨NB, 0, none⟩) 1 1)).run Tryd.prog ((wr.alloc (.cells #[.int .u8 k1] 5)).alloc (.cells #[.int .u8 k2] 5)).drew = .ok (.string (str [UInt8.ofNat k1])) ((wr.alloc (.cells #[.int .u8 k1] 5)).alloc (.cells #[.int .u8 k2] 5)).drew ∧ (convert 57 9 (.slice (some ⟨NB + 1, 0, none⟩) 1 1)).run Tryd.prog ((wr.alloc (.cells #[.int .u8 k1] 5)).alloc (.cells #[.int .u8 k2] 5)).drew = .ok (.string (str [UInt8.ofNat k2])) ((wr.alloc (.cells #[.int .u8 k1] 5)).alloc (.cells #[.int .u8 k2] 5)).drew := by
            intro k1 k2 h1 h2
            have b1 := heap_alloc_at wr (.cells #[.int .u8 (k1 : Int)] 5) NB hNB
            have b2 := (World.grownBy_alloc (wr.alloc (.cells #[.int .u8 (k1 : Int)] 5)) (.cells #[.int .u8 (k2 : Int)] 5) none).heap b1 (by simp)
            have b3 := heap_alloc_at (wr.alloc (.cells #[.int .u8 (k1 : Int)] 5)) (.cells #[.int .u8 (k2 : Int)] 5) (NB + 1) (by rw [World.size_alloc, hNB])
            exact ⟨one_conv k1 h1 rfl (drew_heapH b1), one_conv k1 h1 rfl (drew_heapH b2), one_conv k2 h2 rfl (drew_heapH b3)⟩
          have hcA := hcv m c (by omega) hc256
          have hcB := hcv c m hc256 (by omega)
          obtain ⟨SA, hSA⟩ : ∃ SA, str [UInt8.ofNat m] = SA := ⟨_, rfl⟩
          obtain ⟨SB, hSB⟩ : ∃ SB, str [UInt8.ofNat c] = SB := ⟨_, rfl⟩
          have hsA : SA.size = 1 := by rw [← hSA]; rfl
          have hsB : SB.size = 1 := by rw [← hSB]; rfl
          rw [hSA, hSB] at hcA hcB
          obtain ⟨a1, a2, a3⟩ := hcA
          obtain ⟨a4, a5, a6⟩ := hcB
          have HG6 := Lib.hid (And.intro (fun (o1 o2 : Obj) => grownBy_drew (grownBy_alloc' (World.grownBy_alloc wr o1 none) o2)) True.intro)
          have hi20 : i < 20 := hlt.2
          clear hcv hSA hSB hm hlt
          go_upto_region 6 with (rw [hc])
          go_cut [6] (fun sv wx => ∃ S : ByteArray, sv = .string S ∧ S.size = 17 ∧ Hid (wr.grownBy wx none))
          case first =>
            have q1 : (9223372036854775807 < SA.size + 15) = False := by rw [hsA]; simp
            have q2 : ∀ k, k ≤ 100 → (9223372036854775807 < k + SB.size) = False := fun k hk => by rw [hsB]; simp; omega
            have hx : ((⟨#[0, 0, 0, 0, 0, 0, 0, 0, 0, 0, 0, 0, 0, 0, 0, 0]⟩ : ByteArray).extract 1 16).size = 15 := rfl
            have hsz : (SA ++ (⟨#[0, 0, 0, 0, 0, 0, 0, 0, 0, 0, 0, 0, 0, 0, 0, 0]⟩ : ByteArray).extract 1 16 ++ SB).size = 17 := by rw [ByteArray.size_append, ByteArray.size_append, hsA, hsB]; rfl
            go_region
            all_goals
              go_wp2_with fail
              go_meet
              case rel => exact ⟨_, rfl, hsz, Lib.hid (HG6.out.1 _ _)⟩
          case rest =>
            rename World => wx
            obtain ⟨S, rfl, hS, HGX⟩ := hcut
            have HS := Lib.hid hS
            have hx : wx.heap[n]? = some (.cells #[.int .u64 e, .string p, .int .i64 d, .int .i64 a, .string N] 61 (0, 0)) := HGX.out.heap HH.out.2.2.1 (by simp)
            have hy : wx.heap[n + 2]? = some (.cells #[.int .u64 e, .string P, .int .i64 d, .int .i64 a, v] 63 (0, 0)) := HGX.out.heap HH.out.1 (by simp)
            have hw : wx.heap[n + 1]? = some (.cells #[.int .u64 0, .string ⟨#[]⟩, .int .i64 0, .int .i64 0, .slice none 0 0] 63 (0, 0)) := HGX.out.heap HH.out.2.1 (by simp)
            have ho := own_keep HO.out HGX.out (fun _ _ e => by cases e)
            have HX := Lib.hid (And.intro hx (And.intro hy (And.intro hw (And.intro ho (grownBy_trans HH.out.2.2.2 HGX.out)))))
            clear a1 a2 a3 a4 a5 a6 hsA hsB HG6 x0 x1 x2 x3 x4 y0 y1 y2 y3 y4 HH HO HGX hS hx hy hw ho e1 e2 hiN hc
            obtain ⟨y0, y1, y2, y3, y4⟩ := cells5 HX.out.2.1
            obtain ⟨av, cv, rfl⟩ := slice_own' HX.out.2.2.2.1
            have hlm : L.length + 1 ≤ maxLen := by have := HL.out.1; unfold maxLen; omega
            have hlm2 : (L.length + 1) * 16 ≤ 140737488355328 := by have := HL.out.1; omega
            have HSX : Hid (n + 3 ≤ wx.heap.size) := Lib.hid (Array.getElem?_eq_some_iff.1 HX.out.2.1).1
            by_cases h8 : m = 0
            · have s1 : ((m : Int) == 0) = true := by simp [h8]
              have HLM := Lib.hid (And.intro hlm (And.intro hlm2 (show ∀ u ∈ [Value.string (⟨#[0]⟩ : ByteArray)], u.oneCell' = true from fun u hu => by rw [List.mem_singleton.1 hu]; rfl)))
              clear hlm hlm2 h8
              go_wp2_with (at_builtin; refine wpList_append_own _ rfl _ _ 44 rfl (n + 3) 9 i0 (.string ⟨#[]⟩) 1 16 Tryd.underlying44 hti hz0 hz1 hz2 rfl (by decide) _ _ _ rfl (HX.out.2.2.2.1.alloc _) ⟨wx.heap.size, 0, none⟩ 1 1 [.string ⟨#[0]⟩] rfl rfl (cell_one_new _ _ _) HLM.out.2.2 HLM.out.1 HLM.out.2.1 (Nat.le_trans HSX.out (by simp)) ?_)
              intro v' w4 ho4 hg4 _
              obtain ⟨a4, c4, rfl⟩ := slice_own' ho4
              have hlt4 := HX.out.2.2.2.1.lt
              have k0 := World.grownBy_alloc wx (.cells #[.string ⟨#[0]⟩] 9) none
              have hy4 := hg4.heap (k0.heap HX.out.2.1 (by simp)) (fun q => by have := (hlt4 _ q).1; omega)
              have hw4 := hg4.heap (k0.heap HX.out.2.2.1 (by simp)) (fun q => by have := (hlt4 _ q).1; omega)
              have hx4 := hg4.heap (k0.heap HX.out.1 (by simp)) (fun q => by have := (hlt4 _ q).1; omega)
              have hgr4 : w.grownBy w4 none := grown_row (grownBy_trans HX.out.2.2.2.2 k0) hg4 (fun g q => by have := (hlt4 _ q).1; have := HW.out.2.2.2.2; omega)
              have hl4 := ho4.lt
              rw [push_strs] at ho4
              have HE := Lib.hid (And.intro hy4 (And.intro hw4 (And.intro hx4 (And.intro hgr4 (And.intro ho4 hl4)))))
              obtain ⟨y0, y1, y2, y3, y4⟩ := cells5 hy4
              have uf : ∀ j, w4.frozen? ⟨n + 2, j, none⟩ = false := fun j => free_of hy4 j
              clear hlt4 k0 hy4 hw4 hx4 hgr4 hl4 ho4 hg4 HX
              go_wp2_with fail
              go_roundw
              case rel =>
                have hl1 : (L ++ [(⟨#[0]⟩ : ByteArray)]).length = i + 1 := by rw [List.length_append, HL.out.1]; rfl
                refine ⟨i + 1, L ++ [(⟨#[0]⟩ : ByteArray)], .slice a4 (L.length + 1) c4, by omega, by go_num, Lib.hid ⟨hl1, ?_⟩, ?_, Lib.hid ⟨?_, ?_, ?_, ?_⟩⟩
                · intro s hs
                  rcases List.mem_append.1 hs with q | q
                  · exact HL.out.2 s q
                  · rw [List.mem_singleton.1 q]; decide
                · show World.ownsRow _ _ _ _ _ _ _
                  rw [hl1, ← HL.out.1]
                  exact own_keep HE.out.2.2.2.2.1 (grownBy_setCell (World.grownBy.refl w4 _) 4 _) (fun x hx e => by have := (HE.out.2.2.2.2.2 x hx).1; have e2 : n + 2 = x := Option.some.inj e; omega)
                · exact (heap_setCell HE.out.1 4 _).trans rfl
                · rw [heap_setCell_ne _ _ _ _ (by omega)]; exact HE.out.2.1
                · rw [heap_setCell_ne _ _ _ _ (by omega)]; exact HE.out.2.2.1
                · exact grownBy_setNew HE.out.2.2.2.1 (by have := HW.out.2.2.2.2; omega) _ _
              case measure => simp [intOf]; omega
            · have s1 : ((m : Int) == 0) = false := by rw [beq_eq_false_iff_ne]; omega
              have HLM := Lib.hid (And.intro hlm (And.intro hlm2 (show ∀ u ∈ [Value.string S], u.oneCell' = true from fun u hu => by rw [List.mem_singleton.1 hu]; rfl)))
              clear hlm hlm2 h8
              go_wp2_with (at_builtin; refine wpList_append_own _ rfl _ _ 44 rfl (n + 3) 9 i0 (.string ⟨#[]⟩) 1 16 Tryd.underlying44 hti hz0 hz1 hz2 rfl (by decide) _ _ _ rfl (HX.out.2.2.2.1.alloc _) ⟨wx.heap.size, 0, none⟩ 1 1 [.string S] rfl rfl (cell_one_new _ _ _) HLM.out.2.2 HLM.out.1 HLM.out.2.1 (Nat.le_trans HSX.out (by simp)) ?_)
              intro v' w4 ho4 hg4 _
              obtain ⟨a4, c4, rfl⟩ := slice_own' ho4
              have hlt4 := HX.out.2.2.2.1.lt
              have k0 := World.grownBy_alloc wx (.cells #[.string S] 9) none
              have hy4 := hg4.heap (k0.heap HX.out.2.1 (by simp)) (fun q => by have := (hlt4 _ q).1; omega)
              have hw4 := hg4.heap (k0.heap HX.out.2.2.1 (by simp)) (fun q => by have := (hlt4 _ q).1; omega)
              have hx4 := hg4.heap (k0.heap HX.out.1 (by simp)) (fun q => by have := (hlt4 _ q).1; omega)
              have hgr4 : w.grownBy w4 none := grown_row (grownBy_trans HX.out.2.2.2.2 k0) hg4 (fun g q => by have := (hlt4 _ q).1; have := HW.out.2.2.2.2; omega)
              have hl4 := ho4.lt
              rw [push_strs] at ho4
              have HE := Lib.hid (And.intro hy4 (And.intro hw4 (And.intro hx4 (And.intro hgr4 (And.intro ho4 hl4)))))
              obtain ⟨y0, y1, y2, y3, y4⟩ := cells5 hy4
              have uf : ∀ j, w4.frozen? ⟨n + 2, j, none⟩ = false := fun j => free_of hy4 j
              clear hlt4 k0 hy4 hw4 hx4 hgr4 hl4 ho4 hg4 HX
              go_wp2_with fail
              go_roundw
              case rel =>
                have hl1 : (L ++ [S]).length = i + 1 := by rw [List.length_append, HL.out.1]; rfl
                refine ⟨i + 1, L ++ [S], .slice a4 (L.length + 1) c4, by omega, by go_num, Lib.hid ⟨hl1, ?_⟩, ?_, Lib.hid ⟨?_, ?_, ?_, ?_⟩⟩
                · intro s hs
                  rcases List.mem_append.1 hs with q | q
                  · exact HL.out.2 s q
                  · rw [List.mem_singleton.1 q]; exact Nat.le_of_eq HS.out
                · show World.ownsRow _ _ _ _ _ _ _
                  rw [hl1, ← HL.out.1]
                  exact own_keep HE.out.2.2.2.2.1 (grownBy_setCell (World.grownBy.refl w4 _) 4 _) (fun x hx e => by have := (HE.out.2.2.2.2.2 x hx).1; have e2 : n + 2 = x := Option.some.inj e; omega)
                · exact (heap_setCell HE.out.1 4 _).trans rfl
                · rw [heap_setCell_ne _ _ _ _ (by omega)]; exact HE.out.2.1
                · rw [heap_setCell_ne _ _ _ _ (by omega)]; exact HE.out.2.2.1
                · exact grownBy_setNew HE.out.2.2.2.1 (by have := HW.out.2.2.2.2; omega) _ _
              case measure => simp [intOf]; omega
        · have hz : ¬ (i : Int) < (N.size : Int) ∨ ¬ (i : Int) < 20 := by omega
          have hl20 : L.length ≤ 20 := by have := HL.out.1; omega
          have ho := HO.out
          have hst := HH.out.1
          have u0 := (cells5 HH.out.2.1).1
          have u1 := (cells5 HH.out.2.1).2.1
          have u2 := (cells5 HH.out.2.1).2.2.1
          have u3 := (cells5 HH.out.2.1).2.2.2.1
          have u4 := (cells5 HH.out.2.1).2.2.2.2
          have uf : ∀ j, wr.frozen? ⟨n + 1, j, none⟩ = false := fun j => free_of HH.out.2.1 j
          have HL20 := Lib.hid hl20
          obtain ⟨av, cv, rfl⟩ := slice_own' ho
          obtain ⟨y0, y1, y2, y3, y4⟩ := cells5 hst
          have HE : Hid (∀ v0 v1 v2 v3 v4 : Value, w.grownBy (((((wr.setCell ⟨n + 1, 0, none⟩ v0).setCell ⟨n + 1, 1, none⟩ v1).setCell ⟨n + 1, 2, none⟩ v2).setCell ⟨n + 1, 3, none⟩ v3).setCell ⟨n + 1, 4, none⟩ v4) none) := Lib.hid (fun v0 v1 v2 v3 v4 => grown_row HH.out.2.2.2 (grown5 wr (n + 1) _ _ _ _ _) (fun x q => by have e2 : n + 1 = x := Option.some.inj q; have := HW.out.2.2.2.2; omega))
          have HEO : Hid (∀ v0 v1 v2 v3 v4 : Value, (((((wr.setCell ⟨n + 1, 0, none⟩ v0).setCell ⟨n + 1, 1, none⟩ v1).setCell ⟨n + 1, 2, none⟩ v2).setCell ⟨n + 1, 3, none⟩ v3).setCell ⟨n + 1, 4, none⟩ v4).ownsRow w.heap.size 9 1 (.slice av L.length cv) L.length (strsV L)) := Lib.hid (fun v0 v1 v2 v3 v4 => own_low (own_keep ho (grown5 wr (n + 1) _ _ _ _ _) (fun x hx q => by have := (ho.lt x hx).1; have e2 : n + 1 = x := Option.some.inj q; omega)) (by have := HW.out.2.2.2.2; omega))
          have HB1 := Lib.hid HH.out.2.1
          clear ho hst hl20 HO HH
          by_cases h1 : i < N.size
          · have e1 : (i : Int) < (N.size : Int) := by omega
            have e2 : ¬ (i : Int) < 20 := by omega
            clear hlt hz h1
            go_wp2_with fail
            refine bodyPost_ret (results_told (n := n + 1) (v0 := .int .u64 e) (v1 := .string P) (v2 := .int .i64 d) (v3 := .int .i64 a) (v4 := .slice av L.length cv) rfl (heap5 HB1.out _ _ _ _ _)) rfl ?_
            exact ⟨P, L, .slice av L.length cv, rfl, HP.out, HL20.out, HL.out.2, HEO.out _ _ _ _ _, HE.out _ _ _ _ _⟩
          · have e1 : ¬ (i : Int) < (N.size : Int) := by omega
            clear hlt hz h1
            go_wp2_with fail
            refine bodyPost_ret (results_told (n := n + 1) (v0 := .int .u64 e) (v1 := .string P) (v2 := .int .i64 d) (v3 := .int .i64 a) (v4 := .slice av L.length cv) rfl (heap5 HB1.out _ _ _ _ _)) rfl ?_
            exact ⟨P, L, .slice av L.length cv, rfl, HP.out, HL20.out, HL.out.2, HEO.out _ _ _ _ _, HE.out _ _ _ _ _⟩
  case first =>
    as_aux_lemma =>
      have hgo : ∀ P : ByteArray, w.grownBy (W1.alloc (.cells #[.int .u64 e, .string P, .int .i64 d, .int .i64 a, .slice none 0 0] 63)) none ∧ (W1.alloc (.cells #[.int .u64 e, .string P, .int .i64 d, .int .i64 a, .slice none 0 0] 63)).heap[n + 2]? = some (.cells #[.int .u64 e, .string P, .int .i64 d, .int .i64 a, .slice none 0 0] 63 (0, 0)) ∧ (W1.alloc (.cells #[.int .u64 e, .string P, .int .i64 d, .int .i64 a, .slice none 0 0] 63)).heap[n + 1]? = some (.cells #[.int .u64 0, .string ⟨#[]⟩, .int .i64 0, .int .i64 0, .slice none 0 0] 63 (0, 0)) ∧ (W1.alloc (.cells #[.int .u64 e, .string P, .int .i64 d, .int .i64 a, .slice none 0 0] 63)).heap[n]? = some (.cells #[.int .u64 e, .string p, .int .i64 d, .int .i64 a, .string N] 61 (0, 0)) := fun P =>
        ⟨grownBy_alloc' S1.out.1 _, heap_alloc_at _ _ _ HW.out.2.2.2.1, (World.grownBy_alloc W1 _ none).heap S1.out.2.2 (by simp), (World.grownBy_alloc W1 _ none).heap S1.out.2.1 (by simp)⟩
      have HGO := Lib.hid hgo
      clear hgo
      have hm1 : (0 : Int) ≤ min (p.size : Int) 20 := by omega
      have hm2 : min (p.size : Int) 20 ≤ (p.size : Int) := by omega
      have HM : Hid ((p.extract 0 (min (p.size : Int) 20).toNat).size ≤ 20) := Lib.hid (by rw [ByteArray.size_extract]; omega)
      have hc : ∀ o : Obj, (W1.alloc o).heap[n]? = some (.cells #[.int .u64 e, .string p, .int .i64 d, .int .i64 a, .string N] 61 (0, 0)) := fun o => (World.grownBy_alloc W1 o none).heap S1.out.2.1 (by simp)
      have c0 : ∀ o : Obj, (W1.alloc o).cell? ⟨n, 0, none⟩ = some (.int .u64 e) := fun o => (cells5 (hc o)).1
      have c1 : ∀ o : Obj, (W1.alloc o).cell? ⟨n, 1, none⟩ = some (.string p) := fun o => (cells5 (hc o)).2.1
      have c2 : ∀ o : Obj, (W1.alloc o).cell? ⟨n, 2, none⟩ = some (.int .i64 d) := fun o => (cells5 (hc o)).2.2.1
      have c3 : ∀ o : Obj, (W1.alloc o).cell? ⟨n, 3, none⟩ = some (.int .i64 a) := fun o => (cells5 (hc o)).2.2.2.1
      have hs2 : W1.heap.size = n + 2 := HW.out.2.2.2.1
      have hz := heap_alloc_at W1 (.cells #[.int .u64 0, .string ⟨#[]⟩, .int .i64 0, .int .i64 0, .slice none 0 0] 63) _ hs2
      obtain ⟨u0, u1, u2, u3, u4⟩ := cells5 hz
      have uf : ∀ j, (W1.alloc (.cells #[.int .u64 0, .string ⟨#[]⟩, .int .i64 0, .int .i64 0, .slice none 0 0] 63)).frozen? ⟨n + 2, j, none⟩ = false := fun j => free_of hz j
      clear hc hz
      go_region
      go_wp2_with fail
      go_meet
      case rel => exact ⟨_, rfl, HM.out, Lib.hid ⟨drew_heapH (HGO.out _).2.1, drew_heapH (HGO.out _).2.2.1, drew_heapH (HGO.out _).2.2.2, grownBy_drew (HGO.out _).1⟩⟩
end Go.Proofs.YtioahjdojgcfdaaDoor
