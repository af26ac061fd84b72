/- The walks of xmss.New, Count, Public, digest. -/
import Derived.Test.YtbakhdbnfmoceaaGreatDoorMerkABP
import Derived.Test.YtbakhdbnfmoceaaGreatDoorOctetPN
import Derived.Test.YtbakhdbnfmoceaaGreatDoorOctetB
import Derived.Test.YtbakhdbnfmoceaaGreatDoorWotsABC
import Derived.Handy
namespace Go.Proofs.YtbakhdbnfmoceaaGreatDoor
open Go.RowKit
attribute [local irreducible] shaL

def leavesS (seed : ByteArray) (h : Nat) : List ByteArray := (List.range (2 ^ h)).map (publicS seed)
theorem leavesS_length (seed : ByteArray) (h : Nat) : (leavesS seed h).length = 2 ^ h := by simp [leavesS]
theorem publicS_16 (seed : ByteArray) (i : Nat) : (publicS seed i).size = 16 := tagS_size _ _
theorem leavesS_sizes (seed : ByteArray) (h : Nat) : ∀ s ∈ leavesS seed h, s.size = 16 := by
  intro s hs
  obtain ⟨i, _, rfl⟩ := List.mem_map.1 hs
  exact publicS_16 seed i
def rootK (seed : ByteArray) (h : Nat) : ByteArray := rootS h (leavesS seed h)
def partL (seed : ByteArray) (k : Nat) : List ByteArray := (List.range k).map (publicS seed)
theorem partL_length (seed : ByteArray) (k : Nat) : (partL seed k).length = k := by simp [partL]
theorem partL_succ (seed : ByteArray) (k : Nat) : partL seed (k + 1) = partL seed k ++ [publicS seed k] := by simp [partL, List.range_succ]

/-- a key in memory -/
def KeyAt (w : World) (b : Nat) (seed : ByteArray) (h : Nat) : Prop :=
  ∃ a cap, w.heap[b]? = some (.cells #[.string seed, .slice a (2 ^ h : Nat) cap, .string (openS seed), .string (rootK seed h), .int .i64 h] 91 (0, 0)) ∧ StrsAt w (.slice a (2 ^ h : Nat) cap) (leavesS seed h)
theorem KeyAt.grown {w w' : World} {b : Nat} {seed : ByteArray} {h : Nat} (k : KeyAt w b seed h) (hg : w.grownBy w' none) : KeyAt w' b seed h := by
  obtain ⟨a, cap, h1, h2⟩ := k
  exact ⟨a, cap, (hg.block b (Array.getElem?_eq_some_iff.1 h1).1 (by simp)).trans h1, h2.grown hg⟩

/-- a key whose leaves lie in block lg -/
def KeyBlk (w : World) (b : Nat) (seed : ByteArray) (h lg : Nat) : Prop :=
  ∃ lo cap, w.heap[b]? = some (.cells #[.string seed, .slice (some ⟨lg, lo, none⟩) (2 ^ h : Nat) cap, .string (openS seed), .string (rootK seed h), .int .i64 h] 91 (0, 0)) ∧ StrsAt w (.slice (some ⟨lg, lo, none⟩) (2 ^ h : Nat) cap) (leavesS seed h)
theorem KeyBlk.at_ {w : World} {b : Nat} {seed : ByteArray} {h lg : Nat} (k : KeyBlk w b seed h lg) : KeyAt w b seed h := let ⟨lo, cap, h1, h2⟩ := k; ⟨_, cap, h1, h2⟩

set_option maxHeartbeats 400000 in
theorem heightMayBe_any (h : Nat) (hh : h ≤ 6) (w : World) :
    Calls Tryz.prog 38 #[.int .i64 h] w fun e w' => e = .returned (.bool true) ∧ w = w' := by
  have h1 : (0 : Int) ≤ (h : Int) := by omega
  have h2 : (h : Int) ≤ 6 := by omega
  go_enter Tryz.func38, Tryz.ntmps38
  go_wp2_with fail
  go_ret
  exact ⟨rfl, rfl⟩

set_option maxHeartbeats 1600000 in
set_option maxRecDepth 100000 in
theorem xnew_new (seed : ByteArray) (h : Nat) (hh : h ≤ 6) (hs : seed.size ≤ 1000000000000) (w : World) (hr : ShaReady w) :
    Calls Tryz.prog 19 #[.string seed, .int .i64 h] w fun e w' => ∃ b lg, e = .returned (.tuple #[.pointer (some ⟨b, 0, none⟩), .int .i64 0]) ∧ KeyBlk w' b seed h lg ∧ w.heap.size ≤ lg ∧ lg < b ∧ w.grownBy w' none := by
  obtain ⟨i0, hi, hz0, hz1, hz2⟩ := info_parts infoStrW
  have HR := Lib.hid hr
  obtain ⟨N, hN⟩ : ∃ N, 2 ^ h = N := ⟨_, rfl⟩
  have hN64 : N ≤ 64 := by rw [← hN]; exact pow_le64 h hh
  have hN0 : 0 < N := by rw [← hN]; exact Nat.pow_pos (by decide)
  have HN := Lib.hid hN
  have hm := Lib.hid (heightMayBe_any h hh w)
  clear hr hN
  have b1 : (0 : Int) ≤ (h : Int) := by omega
  have b2 : (h : Int) < 64 := by omega
  have hsh : IntKind.i64.wrap (2 ^ h) = (N : Int) := by
    have e : ((2 : Int) ^ h) = (N : Int) := by rw [← HN.out]; simp
    rw [e]
    exact IntWalk.i64_in _ (by omega)
  go_enter Tryz.func19, Tryz.ntmps19
  go_wp2_with fail
  refine hm.out.mono ?_
  rintro e w1 ⟨rfl, rfl⟩
  go_wp2_with (at_make; refine wpList_make_full _ rfl _ _ 23 rfl w.heap.size 9 i0 (.string ⟨#[]⟩) 1 Tryz.underlying23 hi hz0 hz1 _ _ _ _ N rfl rfl rfl rfl ?c1 ?c2 ?c3 ?_)
  case c1 => rw [hz2]; omega
  case c2 => unfold maxLen; omega
  case c3 => exact Nat.le_refl _
  intro w2 hown hg
  have hm2 : (madeCells #[Value.string ⟨#[]⟩] N).toList = strsV (fillS (partL seed 0) N) := made_strs N
  rw [hm2] at hown
  have HO2 := Lib.hid hown
  have G2 := Lib.hid hg
  clear hown hg hm2 hm
  go_wp2_with fail
  go_loopw [7, 19] (fun _ iv wr => ∃ k : Nat, k ≤ N ∧ iv = .int .i64 k ∧ Hid (wr.ownsRow w.heap.size 9 1 (.slice (some ⟨w.heap.size, 0, none⟩) N N) N (strsV (fillS (partL seed k) N))) ∧ Hid (w.grownBy wr none)) (fun _ iv _ => N - (intOf iv).toNat)
  case atStart => exact ⟨0, by omega, rfl, HO2.out, G2.out⟩
  case round =>
    clear HO2 G2
    obtain ⟨k, hk, rfl, HK, HG⟩ := hrel
    by_cases hlt : k < N
    · have hpb := Lib.hid (wpublic_any seed k hs (by omega) wr (HR.out.grown HG.out))
      have HE := Lib.hid (partL_succ seed k)
      have hel := partL_length seed k
      have hat := fillS_at (partL seed k) N (by omega)
      have hput := fillS_put (partL seed k) N (publicS seed k) (by omega)
      rw [hel] at hat hput
      have HP := Lib.hid hput
      have HAT := Lib.hid hat
      clear hat hput hel
      generalize publicS seed k = S at hpb HE HP
      have c1 : (0 : Int) ≤ (k : Int) := by omega
      have c2 : (k : Int) < (N : Int) := by omega
      go_wp2_with fail
      refine hpb.out.mono ?_
      rintro e w4 ⟨rfl, g4⟩
      have G4 := Lib.hid (grownBy_trans HG.out g4)
      have HK4 := Lib.hid (own_kept HK.out g4)
      clear g4 HK hpb HG
      have hc := (HK4.out.cellAt k (by omega)).trans HAT.out
      have hf := HK4.out.frozenAt k
      go_wp2_with fail
      go_roundw
      case rel =>
        refine ⟨k + 1, by omega, by go_num, ?_, grownBy_setNew G4.out (Nat.le_refl _) _ _⟩
        show World.ownsRow _ _ _ _ _ _ _
        rw [HE.out, ← HP.out]
        exact (HK4.out.stored _ _).1
      case measure => simp [intOf]; omega
    · obtain rfl : k = N := by omega
      have hown := HK.out
      rw [fillS_full _ _ (partL_length seed k)] at hown
      have hst : StrsAt wr (.slice (some ⟨w.heap.size, 0, none⟩) k k) (leavesS seed h) := by
        have e : partL seed k = leavesS seed h := by rw [← HN.out]; rfl
        rw [← e]
        exact strs_own hown
      have HST := Lib.hid hst
      have hroot := Lib.hid (root_ok _ (leavesS seed h) h hh (leavesS_length seed h) (fun s hs => by rw [leavesS_sizes seed h s hs]; decide) wr HST.out (HR.out.grown HG.out))
      have HRT : Hid (rootS h (leavesS seed h) = rootK seed h) := rfl
      rw [HRT.out] at hroot
      have HKA : Hid (∀ (w' : World) (b : Nat), w'.heap[b]? = some (.cells #[.string seed, .slice (some ⟨w.heap.size, 0, none⟩) k k, .string (openS seed), .string (rootK seed h), .int .i64 h] 91 (0, 0)) → StrsAt w' (.slice (some ⟨w.heap.size, 0, none⟩) k k) (leavesS seed h) → KeyBlk w' b seed h w.heap.size) := by
        intro w' b h1 h2
        refine ⟨0, k, ?_, ?_⟩
        · rw [HN.out]; exact h1
        · rw [HN.out]; exact h2
      generalize rootK seed h = R at hroot HKA
      have hop : Hid (∀ w0, ShaReady w0 → Calls Tryz.prog 41 #[.string seed] w0 fun e w' => e = .returned (.string (openS seed)) ∧ w0.grownBy w' none) := fun w0 h0 => wopen_any seed hs w0 h0
      generalize openS seed = O at hop HKA
      clear hst hown HK
      go_wp2_with fail
      refine hroot.out.mono ?_
      rintro e w3 ⟨rfl, g3⟩
      have HST3 := Lib.hid (HST.out.grown g3)
      have G3 := Lib.hid (grownBy_trans HG.out g3)
      clear g3 hroot HST HG
      go_wp2_with fail
      refine (hop.out w3 (HR.out.grown G3.out)).mono ?_
      rintro e w4 ⟨rfl, g4⟩
      have HST4 := Lib.hid (HST3.out.grown g4)
      have G4 := Lib.hid (grownBy_trans G3.out g4)
      clear g4 hop HST3 G3
      go_wp2_with fail
      go_ret2
      exact ⟨w4.heap.size + 1, w.heap.size, rfl, HKA.out _ _ (heap_alloc_at _ _ _ (by simp)) ((HST4.out.grown (World.grownBy_alloc _ _ _)).grown (World.grownBy_alloc _ _ _)), Nat.le_refl _, Nat.lt_succ_of_le G4.out.size, grownBy_alloc' (grownBy_alloc' G4.out _) _⟩
theorem xnew_any (seed : ByteArray) (h : Nat) (hh : h ≤ 6) (hs : seed.size ≤ 1000000000000) (w : World) (hr : ShaReady w) :
    Calls Tryz.prog 19 #[.string seed, .int .i64 h] w fun e w' => ∃ b, e = .returned (.tuple #[.pointer (some ⟨b, 0, none⟩), .int .i64 0]) ∧ KeyAt w' b seed h ∧ w.grownBy w' none :=
  (xnew_new seed h hh hs w hr).mono (by
    rintro e w' ⟨b, lg, rfl, h1, _, _, h2⟩
    exact ⟨b, rfl, h1.at_, h2⟩)
theorem heightMayNot (h : Int) (hh : h < 0 ∨ 6 < h) (w : World) :
    Calls Tryz.prog 38 #[.int .i64 h] w fun e w' => e = .returned (.bool false) ∧ w = w' := by
  by_cases h1 : 0 ≤ h
  · have h2 : ¬ h ≤ 6 := by omega
    go_enter Tryz.func38, Tryz.ntmps38
    go_wp2_with fail
    go_ret
    exact ⟨rfl, rfl⟩
  · go_enter Tryz.func38, Tryz.ntmps38
    go_wp2_with fail
    go_ret
    exact ⟨rfl, rfl⟩
theorem xnew_not (seed : ByteArray) (h : Int) (hh : h < 0 ∨ 6 < h) (w : World) :
    Calls Tryz.prog 19 #[.string seed, .int .i64 h] w fun e w' => e = .returned (.tuple #[.pointer none, .int .i64 1]) ∧ w = w' := by
  have hm := Lib.hid (heightMayNot h hh w)
  clear hh
  go_enter Tryz.func19, Tryz.ntmps19
  go_wp2_with fail
  refine hm.out.mono ?_
  rintro e w1 ⟨rfl, rfl⟩
  go_wp2_with fail
  go_ret2
  exact ⟨rfl, rfl⟩

theorem KeyAt.lt {w : World} {b : Nat} {seed : ByteArray} {h : Nat} (k : KeyAt w b seed h) : b < w.heap.size := by
  obtain ⟨a, cap, h1, h2⟩ := k
  exact (Array.getElem?_eq_some_iff.1 h1).1
set_option maxHeartbeats 400000 in
theorem count_any (b : Nat) (seed : ByteArray) (h N : Nat) (hN : 2 ^ h = N) (w : World) (hk : KeyAt w b seed h) :
    Calls Tryz.prog 24 #[.pointer (some ⟨b, 0, none⟩)] w fun e w' => e = .returned (.int .i64 N) ∧ w = w' := by
  obtain ⟨a, cap, h1, h2⟩ := hk
  rw [hN] at h1
  have c1 := cell_of h1 1
  simp at c1
  clear h1 h2 hN
  go_enter Tryz.func24, Tryz.ntmps24
  go_wp2_with fail
  go_ret
  exact ⟨rfl, rfl⟩
def pubV (o r : ByteArray) (h : Nat) : Value := .agg #[.string o, .string r, .int .i64 h]
set_option maxHeartbeats 400000 in
theorem xpublic_any (b : Nat) (seed : ByteArray) (h : Nat) (w : World) (hk : KeyAt w b seed h) :
    Calls Tryz.prog 22 #[.pointer (some ⟨b, 0, none⟩)] w fun e w' => e = .returned (pubV (openS seed) (rootK seed h) h) ∧ w.grownBy w' none := by
  have hlt := hk.lt
  obtain ⟨a, cap, h1, h2⟩ := hk
  have c2 := cell_of h1 2
  have c3 := cell_of h1 3
  have c4 := cell_of h1 4
  simp at c2 c3 c4
  clear h1 h2
  generalize openS seed = O at c2 ⊢
  generalize rootK seed h = R at c3 ⊢
  go_enter Tryz.func22, Tryz.ntmps22
  go_wp2_with fail
  go_returns
  exact ⟨rfl, World.grownBy_alloc _ _ _⟩

def digestS (o : ByteArray) (i : Nat) (m : ByteArray) : ByteArray := tagS 6 [o, str (be i 4), m]
theorem digestS_size (o : ByteArray) (i : Nat) (m : ByteArray) : (digestS o i m).size = 16 := tagS_size _ _
theorem wr_num4 (i : Nat) (hi : i ≤ 4294967295) : (⟨[], 0⟩ : WSt).num i 4 = ⟨[str (be i 4)], 0⟩ := by
  unfold WSt.num
  rw [if_pos ⟨by decide, by decide, show i < 256 ^ 4 by omega⟩]
  rfl
set_option maxHeartbeats 800000 in
theorem digest_any (o r m : ByteArray) (h i : Nat) (hi : i ≤ 4294967295) (ho : o.size ≤ 1000000000000) (hm : m.size ≤ 1000000000000) (w : World) (hr : ShaReady w) :
    Calls Tryz.prog 29 #[pubV o r h, .int .i64 i, .string m] w fun e w' => e = .returned (.string (digestS o i m)) ∧ w.grownBy w' none := by
  have HR := Lib.hid hr
  clear hr
  unfold pubV
  have w1 : IntKind.u32.wrap (i : Int) = (i : Int) := by simp only [IntKind.wrap, IntKind.bits, IntKind.signed, IntKind.min, IntKind.max]; simp; omega
  have w2 := wrap_u64 i (by omega)
  go_enter Tryz.func29, Tryz.ntmps29
  have hfresh : Hid (WsAt ((w.alloc (.cells #[.string o, .string r, .int .i64 h] 33)).alloc (.cells #[.pointer none, .int .i64 0, .int .i64 0] 100)) (some ⟨w.heap.size + 1, 0, none⟩) (some ⟨[], 0⟩)) := by
    have := WsAt.fresh (w.alloc (.cells #[.string o, .string r, .int .i64 h] 33))
    show WsAt _ _ _
    simpa using this
  have hcell : Hid (((w.alloc (.cells #[.string o, .string r, .int .i64 h] 33)).alloc (.cells #[.pointer none, .int .i64 0, .int .i64 0] 100)).heap[w.heap.size]? = some (.cells #[.string o, .string r, .int .i64 h] 33 (0, 0))) := by
    show _ = _
    rw [Below.heap_alloc _ _ _ (by show w.heap.size < (w.heap.push _).size; rw [Array.size_push]; exact Nat.lt_succ_self _)]
    exact heap_alloc_at _ _ _ rfl
  have hg0 : Hid (w.grownBy ((w.alloc (.cells #[.string o, .string r, .int .i64 h] 33)).alloc (.cells #[.pointer none, .int .i64 0, .int .i64 0] 100)) none) := grownBy_alloc' (World.grownBy_alloc _ _ _) _
  go_wp2_with fail
  refine (wnum_any i (by omega) 4 _ _ _ hfresh.out (WRoom.of _ _ (by decide))).mono ?_
  rintro e w3 ⟨rfl, h3, g3⟩
  have hc3 : w3.heap[w.heap.size]? = some (.cells #[.string o, .string r, .int .i64 h] 33 (0, 0)) := by
    rw [g3.block w.heap.size (by simp; omega) (by show some w.heap.size ≠ some (w.heap.size + 1); simp)]
    exact hcell.out
  have HC3 := Lib.hid hc3
  have hw3 : Hid (WrAt w3 (w.heap.size + 1) ⟨[str (be i 4)], 0⟩) := by
    have := h3
    rw [Option.map_some, wr_num4 i hi] at this
    obtain ⟨b, hb, hw⟩ := this
    cases hb
    exact hw
  have G3 := Lib.hid (grown_row hg0.out g3 (by intro g e; cases e; exact Nat.le_succ _))
  have hz4 : (str (be i 4)).size = 4 := by rw [str_size, be_length]
  have hfl : str (flat [str (be i 4)]) = str (be i 4) := by simp [flat, str]
  have HE : Hid (digestS o i m = tagS 6 [o, str (be i 4), m]) := rfl
  clear g3 h3 hc3 hcell hfresh hg0
  have hby := Lib.hid (bytes_ok w3 _ _ hw3.out (by show total [str (be i 4)] ≤ _; rw [total_cons, hz4]; decide))
  rw [hfl] at hby
  clear hfl hw3
  generalize str (be i 4) = z at hz4 HE hby
  go_wp2_with fail
  refine hby.out.mono ?_
  rintro e w4 ⟨rfl, g4⟩
  have hc4 := (g4.block _ (Array.getElem?_eq_some_iff.1 HC3.out).1 (by simp)).trans HC3.out
  have c0 := cell_of hc4 0
  simp at c0
  have G4 := Lib.hid (grownBy_trans G3.out g4)
  clear g4 hby hc4 HC3
  have hT := tagged_new w4 6 [o, z, m] _ 3 6 rfl rfl rfl (HR.out.grown G4.out) (by simp) (by
    intro s hs'
    simp at hs'
    rcases hs' with rfl | rfl | rfl <;> omega)
  rw [← HE.out] at hT
  have HT := Lib.hid hT
  clear hT
  go_wp2_with fail
  refine HT.out.mono ?_
  rintro e w5 ⟨rfl, g5⟩
  have G5 := Lib.hid (grownBy_trans G4.out g5)
  clear g5
  go_wp2_with fail
  go_ret
  exact ⟨rfl, G5.out⟩
end Go.Proofs.YtbakhdbnfmoceaaGreatDoor
