/- The walks of xmss's write and read: texts of 16 bytes. · The walks of xmss.Sign, hasPlace, Verify. · The walk of a signature's Encode. · A struct of nine cells: an update in memory. No walk. · The walks of a roster's New, Len, an auditor's check; of layer 20's law's key; of has. · The walks of a roster's has. · The walk of a roster's Add. · The walks of a roster's At; layer 20 speaks. · The walks of bits.First and of the document's Bit. -/
import Derived.Test.YtioahjdojgcfdaaDoorRosterLaysB4
import Derived.Test.YtioahjdojgcfdaaDoorRosterLaysB2
import Derived.Test.YtioahjdojgcfdaaDoorRosterLaysB5
import Derived.Deep.DeepCutAuto
import Derived.Deep.RegionHeld3
import Derived.Handy
import Derived.Test.YtioahjdojgcfdaaDoorRosterLaysB3
import Derived.Deep.AppendLies
import Derived.Laws.StructEq
import Derived.Test.YtioahjdojgcfdaaDoorRosN
import Derived.Laws.BitsAllLaws
namespace Go.Proofs.YtioahjdojgcfdaaDoor
open Go.RowKit
attribute [local irreducible] shaL

theorem total_rev (L ts : List ByteArray) (h : ∀ t ∈ L, t.size = 16) : total (L.reverse ++ ts) = 16 * L.length + total ts := by
  rw [← flat_length, flat_rev, List.length_append, flat_length, catS_16 L h, Nat.add_comm]
theorem rev_snoc (L ts : List ByteArray) (t : ByteArray) : (L ++ [t]).reverse ++ ts = t :: (L.reverse ++ ts) := by
  rw [List.reverse_append]
  rfl
set_option maxRecDepth 100000 in
set_option maxHeartbeats 1600000 in
theorem xwrite_any (b : Nat) (ts L : List ByteArray) (a : Option Addr) (n c : Nat) (hn : L.length = n) (hn1 : n ≤ 1000) (h16 : ∀ t ∈ L, t.size = 16) (ht : total ts ≤ 100000000) (w : World) (hv : StrsAt w (.slice a n c) L) (hw : WrAt w b ⟨ts, 0⟩) (hne : ∀ g o, 0 < n → a = some ⟨g, o, none⟩ → g ≠ b) :
    Calls Tryd.prog 101 #[.pointer (some ⟨b, 0, none⟩), .slice a n c] w fun e w' => e = .returned (.tuple #[]) ∧ WrAt w' b ⟨L.reverse ++ ts, 0⟩ ∧ w.grownBy w' (some b) := by
  have HV := Lib.hid hv
  have HW := Lib.hid hw
  have HN := Lib.hid hn
  have H16 := Lib.hid h16
  have HT := Lib.hid ht
  have HNE := Lib.hid hne
  clear hv hw hn h16 ht hne
  go_enter Tryd.func101, Tryd.ntmps101
  go_wp2_with fail
  go_loopw [5, 8] (fun _ iv wr => ∃ i : Nat, i ≤ n ∧ iv = .int .i64 i ∧ Hid (WrAt wr b ⟨(L.take i).reverse ++ ts, 0⟩) ∧ Hid (w.grownBy wr (some b))) (fun _ iv _ => n - (intOf iv).toNat)
  case atStart => exact ⟨0, Nat.zero_le _, rfl, HW.out, Lib.hid (World.grownBy.refl _ _)⟩
  case round =>
    obtain ⟨i, hi, rfl, HI, HG⟩ := hrel
    by_cases hil : i < n
    · obtain ⟨s, hs⟩ : ∃ s, L[i]? = some s := ⟨_, List.getElem?_eq_getElem (by have := HN.out; omega)⟩
      obtain ⟨g1, o1, rfl, hc1⟩ := (HV.out.beside HG.out (fun g o e q => HNE.out g o (by omega) e (Option.some.inj q).symm)).at_ i s hs
      have e0 : (0 : Int) ≤ (i : Int) := by omega
      have e1 : (i : Int) < (n : Int) := by omega
      have h16 := H16.out s (List.mem_of_getElem? hs)
      have HTK := Lib.hid (take_at hs).1
      have hz := total_rev (L.take i) ts (fun x hx => H16.out x (List.mem_of_mem_take hx))
      have hz2 := List.length_take_le i L
      have hf := wr_fixedS (w := wr) (st := ⟨(L.take i).reverse ++ ts, 0⟩) s 16 HI.out (by show s.size + total ((L.take i).reverse ++ ts) ≤ _; have := HT.out; omega)
      rw [put16 _ s h16] at hf
      have HF := Lib.hid hf
      clear hs hf hz hz2 h16
      go_wp2_with fail
      refine HF.out.mono ?_
      rintro e w2 ⟨rfl, hw2, g2⟩
      have W2 := Lib.hid hw2
      have G2 := Lib.hid (World.grownBy.trans HG.out g2)
      clear hw2 g2 HG HI HF hc1
      go_wp2_with fail
      go_roundw
      case rel => exact ⟨i + 1, by omega, by go_num, Lib.hid (by rw [HTK.out, rev_snoc]; exact W2.out), G2⟩
      case measure => simp [intOf]; omega
    · have e1 : ¬ (i : Int) < (n : Int) := by omega
      have hin : L.take i = L := List.take_of_length_le (by have := HN.out; omega)
      rw [hin] at HI
      clear hin hil hi
      go_wp2_with fail
      go_returns
      exact ⟨rfl, HI.out, HG.out⟩

theorem grown_wide {a b : World} (h : a.grownBy b none) (row : Option Nat) : a.grownBy b row := ⟨h.os, h.tape, h.output, h.size, fun i hi _ => h.block i hi (by simp)⟩
theorem own_keepP {w w' : World} {B n : Nat} {t : TypeId} {v : Value} {xs : List Value} {row : Option Nat} (h : w.ownsRow B t 1 v n xs) (k : w.grownBy w' row) (hne : ∀ x, v.ownBlock = some x → row ≠ some x) : w'.ownsRow B t 1 v n xs := by
  refine ⟨h.1, ?_⟩
  rcases h.2 with h' | ⟨g, cap, cur, rfl, hB, hg, r⟩
  · exact .inl h'
  · exact .inr ⟨g, cap, cur, rfl, hB, (k.block g (Array.getElem?_eq_some_iff.1 hg).1 (fun e => hne g rfl e.symm)).trans hg, r⟩
theorem RdAt.set {w : World} {b : Nat} {s : ByteArray} {e : Int} (h : RdAt w b s e) {k : Nat} (hk : k ≠ b) (o : Nat) (u : Value) : RdAt (w.setCell ⟨k, o, none⟩ u) b s e := by
  unfold RdAt
  rw [heap_setCell_ne _ _ _ _ hk]
  exact h
set_option maxRecDepth 100000 in
set_option maxHeartbeats 1600000 in
theorem xread_any (b n : Nat) (s : RSt) (hn1 : n ≤ 1000) (hs : s.rest.size ≤ 1000000000) (w : World) (hw : RdAt w b s.rest s.err) :
    Calls Tryd.prog 107 #[.pointer (some ⟨b, 0, none⟩), .int .i64 n] w fun e w' => ∃ a c, e = .returned (.slice a n c) ∧ w'.ownsRow w.heap.size 9 1 (.slice a n c) n (strsV (reads n s).1) ∧ RdAt w' b (reads n s).2.rest (reads n s).2.err ∧ w.grownBy w' (some b) := by
  obtain ⟨i0, hi, hz0, hz1, hz2⟩ := info_parts infoStrW
  have HW := Lib.hid hw
  have HS := Lib.hid hs
  have HBL := Lib.hid hw.lt
  clear hw hs
  go_enter Tryd.func107, Tryd.ntmps107
  go_wp2_with (at_make; refine wpList_make_full _ rfl _ _ 44 rfl w.heap.size 9 i0 (.string ⟨#[]⟩) 1 Tryd.underlying44 hi hz0 hz1 _ _ _ _ n rfl rfl rfl rfl ?c1 ?c2 ?c3 ?_)
  case c1 => rw [hz2]; omega
  case c2 => unfold maxLen; omega
  case c3 => exact Nat.le_refl _
  intro w2 hown hg
  have hm2 : (madeCells #[Value.string ⟨#[]⟩] n).toList = strsV (fillS (reads 0 s).1 n) := made_strs n
  rw [hm2] at hown
  have HO2 := Lib.hid hown
  have HR2 := Lib.hid (HW.out.kept hg (by simp))
  have G2 := Lib.hid hg
  clear hown hg hm2
  go_wp2_with fail
  go_loopw [6, 11] (fun _ iv wr => ∃ k : Nat, k ≤ n ∧ iv = .int .i64 k ∧ Hid (wr.ownsRow w.heap.size 9 1 (.slice (some ⟨w.heap.size, 0, none⟩) n n) n (strsV (fillS (reads k s).1 n))) ∧ Hid (RdAt wr b (reads k s).2.rest (reads k s).2.err) ∧ Hid (w.grownBy wr (some b))) (fun _ iv _ => n - (intOf iv).toNat)
  case atStart => exact ⟨0, by omega, rfl, HO2.out, HR2.out, Lib.hid (grown_wide G2.out _)⟩
  case round =>
    clear HO2 G2 HR2
    obtain ⟨k, hk, rfl, HK, HR, HG⟩ := hrel
    by_cases hlt : k < n
    · have hpb := Lib.hid (rd_fixedS (w := wr) (s := (reads k s).2) 16 HR.out (by have := reads_rest s k; have := HS.out; unfold maxLen; omega))
      have hel := reads_len s k
      have hat := fillS_at (reads k s).1 n (by omega)
      have hput := fillS_put (reads k s).1 n ((reads k s).2.fixed 16).1 (by omega)
      rw [hel] at hat hput
      have HP : Hid ((strsV (fillS (reads k s).1 n)).set k (.string ((reads k s).2.fixed 16).1) = strsV (fillS (reads (k + 1) s).1 n)) := Lib.hid hput
      have HQ : Hid (((reads k s).2.fixed 16).2 = (reads (k + 1) s).2) := Lib.hid rfl
      have HAT := Lib.hid hat
      clear hat hput hel
      generalize ((reads k s).2.fixed 16).1 = S at hpb HP
      generalize ((reads k s).2.fixed 16).2 = Q at hpb HQ
      have c1 : (0 : Int) ≤ (k : Int) := by omega
      have c2 : (k : Int) < (n : Int) := by omega
      go_wp2_with fail
      refine hpb.out.mono ?_
      rintro e w4 ⟨rfl, hr4, g4⟩
      have G4 := Lib.hid (World.grownBy.trans HG.out g4)
      have HR4 := Lib.hid hr4
      have HK4 := Lib.hid (own_keepP HK.out g4 (fun x hx e => by have e1 := Option.some.inj e; have e2 : w.heap.size = x := Option.some.inj hx; have := HBL.out; omega))
      clear g4 HK hpb HG HR hr4
      have hc := (HK4.out.cellAt k (by omega)).trans HAT.out
      have hf := HK4.out.frozenAt k
      go_wp2_with fail
      go_roundw
      case rel =>
        refine ⟨k + 1, by omega, by go_num, ?_, ?_, grownBy_setNew G4.out (Nat.le_refl _) _ _⟩
        · show World.ownsRow _ _ _ _ _ _ _
          rw [← HP.out]
          exact (HK4.out.stored _ _).1
        · show RdAt _ _ _ _
          rw [← HQ.out]
          exact HR4.out.set (by have := HBL.out; omega) _ _
      case measure => simp [intOf]; omega
    · obtain rfl : k = n := by omega
      have hown := HK.out
      rw [fillS_full _ _ (reads_len s k)] at hown
      have HO := Lib.hid hown
      clear hown HK hlt hk
      go_wp2_with fail
      go_returns
      exact ⟨_, _, rfl, HO.out, HR.out, HG.out⟩
end Go.Proofs.YtioahjdojgcfdaaDoor

namespace Go.Proofs.YtioahjdojgcfdaaDoor
open Go.RowKit
attribute [local irreducible] shaL

def sigV (i : Nat) (c p : Value) : Value := .agg #[.int .i64 i, c, p]
def chainsS (seed : ByteArray) (i : Nat) (m : ByteArray) : List ByteArray := sigS seed i (digs (digestS (openS seed) i m).data.toList) 35
theorem StrsAt.hold {w : World} {v : Value} {L : List ByteArray} (hv : StrsAt w v L) (h0 : 0 < L.length) : ∀ g o n c, v = .slice (some ⟨g, o, none⟩) n c → g < w.heap.size := by
  rintro g o n c rfl
  exact hv.lt h0
theorem sign_keep {w a c : World} {b : Nat} {x0 x2 x3 x4 : Value} (h : w.grownBy a none) (g : a.grownBy c none) (k0 : w.cell? ⟨b, 0, none⟩ = some x0) (k2 : w.cell? ⟨b, 2, none⟩ = some x2) (k3 : w.cell? ⟨b, 3, none⟩ = some x3) (k4 : w.cell? ⟨b, 4, none⟩ = some x4) :
    w.grownBy c none ∧ c.cell? ⟨b, 0, none⟩ = some x0 ∧ c.cell? ⟨b, 2, none⟩ = some x2 ∧ c.cell? ⟨b, 3, none⟩ = some x3 ∧ c.cell? ⟨b, 4, none⟩ = some x4 :=
  have hg := grownBy_trans h g
  ⟨hg, hg.cell k0 (by simp), hg.cell k2 (by simp), hg.cell k3 (by simp), hg.cell k4 (by simp)⟩
set_option maxHeartbeats 1600000 in
set_option maxRecDepth 100000 in
theorem xsign_new (b : Nat) (seed m : ByteArray) (h i : Nat) (hh : h ≤ 6) (hi : i < 2 ^ h) (hs : seed.size ≤ 1000000000000) (hm : m.size ≤ 1000000000000) (w : World) (hk : KeyAt w b seed h) (hr : ShaReady w) :
    Calls Tryd.prog 56 #[.pointer (some ⟨b, 0, none⟩), .int .i64 i, .string m] w fun e w' => ∃ c p, e = .returned (.tuple #[sigV i c p, .int .i64 0]) ∧ StrsAt w' c (chainsS seed i m) ∧ StrsAt w' p (pathS h (leavesS seed h) i) ∧ (∀ x, c.ownBlock = some x → w.heap.size ≤ x) ∧ (∀ x, p.ownBlock = some x → w.heap.size ≤ x) ∧ w.grownBy w' none := by
  have HR := Lib.hid hr
  obtain ⟨N, hN⟩ : ∃ N, 2 ^ h = N := ⟨_, rfl⟩
  have HN := Lib.hid hN
  have hi6 : i < 64 := Nat.lt_of_lt_of_le hi (pow_le64 h hh)
  have HK := Lib.hid hk
  obtain ⟨a, cap, h1, h2⟩ := hk
  rw [hN] at h1 h2
  have HH := Lib.hid h1
  have HL := Lib.hid h2
  have hpath : Hid (∀ w0, w.grownBy w0 none → Calls Tryd.prog 98 #[.slice a N cap, .int .i64 i] w0 fun e w' => ∃ v', e = .returned (.tuple #[v', .int .i64 0]) ∧ w'.ownsRow w0.heap.size 9 1 v' h (strsV (pathS h (leavesS seed h) i)) ∧ w0.grownBy w' none) := fun w0 h0 =>
    path_ok _ (leavesS seed h) h i hh (leavesS_length seed h) hi (fun s hs => by rw [leavesS_sizes seed h s hs]; decide) w0 (h2.grown h0) ((h2.grown h0).hold (by rw [leavesS_length]; exact Nat.pow_pos (by decide))) (hr.grown h0)
  have hiN : i < N := by rw [← hN]; exact hi
  have hn1 : (i : Int) < (N : Int) := by omega
  have hdg : Hid (∀ w0, ShaReady w0 → Calls Tryd.prog 100 #[.agg #[.string (openS seed), .string (rootK seed h), .int .i64 h], .int .i64 i, .string m] w0 fun e w' => e = .returned (.string (digestS (openS seed) i m)) ∧ w0.grownBy w' none) := fun w0 h0 => digest_any (openS seed) (rootK seed h) m h i (by omega) (by rw [openS_size]; decide) hm w0 h0
  have hsg : Hid (∀ w0, w.grownBy w0 none → ShaReady w0 → Calls Tryd.prog 99 #[.string seed, .int .i64 i, .string (digestS (openS seed) i m)] w0 fun e w' => ∃ v, e = .returned (.tuple #[v, .int .i64 0]) ∧ StrsAt w' v (chainsS seed i m) ∧ (∀ x, v.ownBlock = some x → w.heap.size ≤ x) ∧ w0.grownBy w' none) := fun w0 k0 h0 => (wsign_new seed (digestS (openS seed) i m) i hs (digestS_size _ _ _) (by omega) w0 h0).mono (by
    rintro e w' ⟨v, rfl, h1, h2⟩
    have hL := sigS_length seed i (digs (digestS (openS seed) i m).data.toList) 35
    exact ⟨v, rfl, strs_row h1 hL, fun x e => Nat.le_trans k0.size (h1.lt x e).1, h2⟩)
  generalize digestS (openS seed) i m = D at hdg hsg
  have HCL : Hid ((chainsS seed i m).length = 35) := sigS_length _ _ _ _
  generalize chainsS seed i m = C at hsg HCL ⊢
  generalize openS seed = O at hdg HH
  generalize rootK seed h = R at hdg HH
  generalize pathS h (leavesS seed h) i = P at hpath ⊢
  have c1 := cell_of HH.out 1
  simp at c1
  clear hr h1 h2 hN hi HL
  go_enter Tryd.func56, Tryd.ntmps56
  go_wp2_with fail
  have hg0 : Hid (w.grownBy (w.alloc (.cells #[.int .i64 0, .slice none 0 0, .slice none 0 0] 46)) none) := World.grownBy_alloc _ _ _
  have hzc : Hid ((w.alloc (.cells #[.int .i64 0, .slice none 0 0, .slice none 0 0] 46)).heap[w.heap.size]? = some (.cells #[.int .i64 0, .slice none 0 0, .slice none 0 0] 46 (0, 0))) := heap_alloc_at _ _ _ rfl
  have HWS : Hid (w.heap.size < (w.alloc (.cells #[.int .i64 0, .slice none 0 0, .slice none 0 0] 46)).heap.size) := by show w.heap.size < (w.heap.push _).size; rw [Array.size_push]; exact Nat.lt_succ_self _
  have hcount := Lib.hid (count_any b seed h N HN.out _ (HK.out.grown hg0.out))
  generalize w.alloc (.cells #[.int .i64 0, .slice none 0 0, .slice none 0 0] 46) = wz at hg0 hzc hcount HWS ⊢
  have c1z := hg0.out.cell c1 (by simp)
  refine hcount.out.mono ?_
  rintro e w1 ⟨rfl, rfl⟩
  go_wp2_with fail
  refine (hpath.out _ hg0.out).mono ?_
  rintro e w2 ⟨v2, rfl, ho2, g2⟩
  obtain ⟨pa, pc, rfl⟩ := slice_own' ho2
  have HP2 := Lib.hid (strs_own ho2)
  have HPB := Lib.hid ho2.lt
  have G2 := Lib.hid (grownBy_trans hg0.out g2)
  have HZ2 : Hid (w2.heap[w.heap.size]? = some (.cells #[.int .i64 0, .slice none 0 0, .slice none 0 0] 46 (0, 0))) := (g2.block _ (Array.getElem?_eq_some_iff.1 hzc.out).1 (by simp)).trans hzc.out
  have hk2 := (G2.out.block _ (Array.getElem?_eq_some_iff.1 HH.out).1 (by simp)).trans HH.out
  have k0 := cell_of hk2 0
  have k2 := cell_of hk2 2
  have k3 := cell_of hk2 3
  have k4 := cell_of hk2 4
  simp at k0 k2 k3 k4
  have HR2 := Lib.hid (HR.out.grown G2.out)
  clear g2 ho2 hpath hcount hzc hg0 hk2 c1 c1z
  go_wp2_with fail
  go_region_held3 (fun w' => w2.grownBy w' none ∧ w'.cell? ⟨b, 0, none⟩ = some (.string seed) ∧ w'.cell? ⟨b, 2, none⟩ = some (.string O) ∧ w'.cell? ⟨b, 3, none⟩ = some (.string R) ∧ w'.cell? ⟨b, 4, none⟩ = some (.int .i64 h)) (first | exact ck | exact ⟨grownBy_drew (World.grownBy.refl _ _), k0, k2, k3, k4⟩)
    (first
      | (go_at_call 100; (with_reducible refine (hdg.out _ (HR2.out.grown (grownBy_drew (World.grownBy.refl _ _)))).mono ?_); rintro e w6 ⟨rfl, g6⟩; have ck := sign_keep (grownBy_drew (World.grownBy.refl w2 none)) g6 k0 k2 k3 k4)
      | (go_at_call 99; (with_reducible refine (hsg.out _ (grownBy_trans G2.out ck.1) (HR2.out.grown ck.1)).mono ?_); rintro e w7 ⟨v7, rfl, hs7, hn7, g7⟩; have ck := sign_keep ck.1 g7 k0 k2 k3 k4))
  obtain ⟨a7, cc7, rfl⟩ := hs7.form
  have HN7 := Lib.hid hn7
  have hg7 := Lib.hid ck.1
  have hz7 := (hg7.out.block _ (Array.getElem?_eq_some_iff.1 HZ2.out).1 (by simp)).trans HZ2.out
  have z0 := cell_of hz7 0
  have z1 := cell_of hz7 1
  have z2 := cell_of hz7 2
  have f0 := free_of hz7 0
  have f1 := free_of hz7 1
  have f2 := free_of hz7 2
  simp at z0 z1 z2
  have HZ7 := Lib.hid hz7
  have HS7 := Lib.hid hs7
  have HP7 := Lib.hid (HP2.out.grown hg7.out)
  clear ck hs7 hn7 hz7 k0 k2 k3 k4
  go_wp2_with fail
  have hW := heap_setCell (heap_setCell (heap_setCell HZ7.out 0 (.int .i64 i)) 1 (.slice a7 C.length cc7)) 2 (.slice pa h pc)
  have hWg : w7.grownBy (((w7.setCell ⟨w.heap.size, 0, none⟩ (.int .i64 i)).setCell ⟨w.heap.size, 1, none⟩ (.slice a7 C.length cc7)).setCell ⟨w.heap.size, 2, none⟩ (.slice pa h pc)) (some w.heap.size) := grownBy_setCell (grownBy_setCell (grownBy_setCell (World.grownBy.refl _ _) 0 _) 1 _) 2 _
  generalize ((w7.setCell ⟨w.heap.size, 0, none⟩ (.int .i64 i)).setCell ⟨w.heap.size, 1, none⟩ (.slice a7 C.length cc7)).setCell ⟨w.heap.size, 2, none⟩ (.slice pa h pc) = wf at hW hWg ⊢
  have y0 := cell_of hW 0
  have y1 := cell_of hW 1
  have y2 := cell_of hW 2
  simp at y0 y1 y2
  refine bodyPost_ret (by simp [results, Tryd.results56, go_sem, y0, y1, y2]; try rfl) rfl ?_
  refine ⟨_, _, rfl, ?_, ?_, HN7.out, fun x e => Nat.le_trans (Nat.le_of_lt HWS.out) (HPB.out x e).1, ?_⟩
  · refine HS7.out.beside hWg ?_
    rintro g o rfl e
    cases e
    obtain ⟨g', o', e', hc⟩ := HS7.out.at_ 0 _ (List.getElem?_eq_getElem (by rw [HCL.out]; decide))
    cases e'
    rw [cell_of HZ7.out] at hc
    have hlt := (List.getElem?_eq_some_iff.1 (by simpa using hc : ([Value.int .i64 0, .slice none 0 0, .slice none 0 0] : List Value)[o + 0]? = some (.string _))).1
    have ho : o = 0 ∨ o = 1 ∨ o = 2 := by simp at hlt; omega
    rcases ho with rfl | rfl | rfl <;> simp at hc
  · refine HP7.out.beside hWg ?_
    rintro g o rfl e
    cases e
    have h1 := (HPB.out w.heap.size rfl).1
    have h2 := HWS.out
    exact absurd h1 (Nat.not_le_of_lt h2)
  · exact grown_row (grownBy_trans G2.out hg7.out) hWg (by intro g e; cases e; exact Nat.le_refl _)
theorem xsign_any (b : Nat) (seed m : ByteArray) (h i : Nat) (hh : h ≤ 6) (hi : i < 2 ^ h) (hs : seed.size ≤ 1000000000000) (hm : m.size ≤ 1000000000000) (w : World) (hk : KeyAt w b seed h) (hr : ShaReady w) :
    Calls Tryd.prog 56 #[.pointer (some ⟨b, 0, none⟩), .int .i64 i, .string m] w fun e w' => ∃ c p, e = .returned (.tuple #[sigV i c p, .int .i64 0]) ∧ StrsAt w' c (chainsS seed i m) ∧ StrsAt w' p (pathS h (leavesS seed h) i) ∧ w.grownBy w' none :=
  (xsign_new b seed m h i hh hi hs hm w hk hr).mono (by
    rintro e w' ⟨c, p, rfl, h1, h2, _, _, h3⟩
    exact ⟨c, p, rfl, h1, h2, h3⟩)
end Go.Proofs.YtioahjdojgcfdaaDoor

namespace Go.Proofs.YtioahjdojgcfdaaDoor
open Go.RowKit
attribute [local irreducible] shaL

theorem sig_cells {w : World} {b : Nat} {t : TypeId} {a0 a1 a2 : Value} (h : w.heap[b]? = some (.cells #[a0, a1, a2] t (0, 0))) : w.cell? ⟨b, 0, none⟩ = some a0 ∧ w.cell? ⟨b, 1, none⟩ = some a1 ∧ w.cell? ⟨b, 2, none⟩ = some a2 := by
  refine ⟨?_, ?_, ?_⟩ <;> rw [cell_of h] <;> rfl
theorem wr_num1 {w : World} {b : Nat} {ts : List ByteArray} (n : Nat) (hn : n < 256) (h : WrAt w b ⟨ts, 0⟩) (hr : total ts ≤ 100000000) :
    Calls Tryd.prog 83 #[.pointer (some ⟨b, 0, none⟩), .int .u64 n, .int .i64 1] w fun e w' => e = .returned (.pointer (some ⟨b, 0, none⟩)) ∧ WrAt w' b ⟨str (be n 1) :: ts, 0⟩ ∧ w.grownBy w' (some b) := by
  have := wr_numS (w := w) (st := ⟨ts, 0⟩) n (by omega) 1 h (by show total ts ≤ _; omega)
  rwa [wnum_ok ts n 1 ⟨by omega, by omega, by show n < 256; omega⟩] at this
set_option maxRecDepth 100000 in
set_option maxHeartbeats 1600000 in
theorem sencode_any (i : Nat) (C P : List ByteArray) (ca pa : Option Addr) (cc pc h : Nat) (hi : i ≤ 63) (hC : C.length = 35) (hP : P.length = h) (hh : h ≤ 6) (h1 : ∀ t ∈ C, t.size = 16) (h2 : ∀ t ∈ P, t.size = 16) (w : World) (hc : StrsAt w (.slice ca 35 cc) C) (hp : StrsAt w (.slice pa h pc) P) :
    Calls Tryd.prog 59 #[sigV i (.slice ca 35 cc) (.slice pa h pc)] w fun e w' => e = .returned (.tuple #[.string (str (sigB i C P)), .int .i64 0]) ∧ w.grownBy w' none := by
  unfold sigV
  have hb0 := heap_alloc_at w (.cells #[.int .i64 i, .slice ca 35 cc, .slice pa h pc] 46) _ rfl
  have hg0 : w.grownBy (w.alloc (.cells #[.int .i64 i, .slice ca 35 cc, .slice pa h pc] 46)) none := World.grownBy_alloc _ _ _
  obtain ⟨W0, hW0⟩ : ∃ W0, w.alloc (.cells #[.int .i64 i, .slice ca 35 cc, .slice pa h pc] 46) = W0 := ⟨_, rfl⟩
  rw [hW0] at hb0 hg0
  have hWB : WrAt (W0.alloc (.cells #[.pointer none, .int .i64 0, .int .i64 0] 114)) W0.heap.size ⟨[], 0⟩ := ⟨.pointer none, heap_alloc_at W0 _ _ rfl, rfl⟩
  have hg1 : W0.grownBy (W0.alloc (.cells #[.pointer none, .int .i64 0, .int .i64 0] 114)) none := World.grownBy_alloc _ _ _
  have hb1 := hg1.heap hb0 (by simp)
  obtain ⟨W1, hW1⟩ : ∃ W1, W0.alloc (.cells #[.pointer none, .int .i64 0, .int .i64 0] 114) = W1 := ⟨_, rfl⟩
  have hlt : w.heap.size < W0.heap.size := (Array.getElem?_eq_some_iff.1 hb0).1
  obtain ⟨XB, hXB⟩ : ∃ XB, w.heap.size = XB := ⟨_, rfl⟩
  obtain ⟨WB, hWBn⟩ : ∃ WB, W0.heap.size = WB := ⟨_, rfl⟩
  rw [hW1] at hWB hg1 hb1
  rw [hWBn] at hWB hlt
  rw [hXB] at hb0 hb1 hlt
  have hnew : ∀ g, some WB = some g → w.heap.size ≤ g := fun g e => by cases e; omega
  have hne2 : ∀ (w' w'' : World) (v : Array Value) (t : TypeId), w'.grownBy w'' (some WB) → w'.heap[XB]? = some (.cells v t (0, 0)) → w''.heap[XB]? = some (.cells v t (0, 0)) := fun w' w'' o u g h => g.heap h (fun e => by have := Option.some.inj e; omega)
  have hneC : ∀ g o, 0 < 35 → ca = some ⟨g, o, none⟩ → g ≠ WB := fun g o _ e => by
    subst e
    have := hc.lt (by omega)
    omega
  have hneP : ∀ g o, 0 < h → pa = some ⟨g, o, none⟩ → g ≠ WB := fun g o q e => by
    subst e
    have := hp.lt (by omega)
    omega
  have hend : str (flat (P.reverse ++ (str (be h 1) :: (C.reverse ++ [str (be i 1)])))) = str (sigB i C P) := by
    rw [flat_rev]
    show str ((flat (C.reverse ++ [str (be i 1)]) ++ (str (be h 1)).data.toList) ++ catS P) = _
    rw [flat_rev, str_data]
    show str ((((flat [] ++ (str (be i 1)).data.toList) ++ catS C) ++ be h 1) ++ catS P) = _
    rw [str_data]
    unfold sigB
    rw [hP]
    show str (((([] ++ be i 1) ++ catS C) ++ be h 1) ++ catS P) = _
    simp only [List.append_assoc, List.nil_append]
  have t1 : total [str (be i 1)] = 1 := by rw [total_cons, str_size, be_length]; rfl
  have t2 : total (C.reverse ++ [str (be i 1)]) = 561 := by rw [total_rev C _ h1, t1, hC]
  have t3 : total (str (be h 1) :: (C.reverse ++ [str (be i 1)])) = 562 := by rw [total_cons, str_size, be_length, t2]
  have t4 : total (P.reverse ++ (str (be h 1) :: (C.reverse ++ [str (be i 1)]))) = 16 * h + 562 := by rw [total_rev P _ h2, t3, hP]
  have c0 : IntKind.u64.wrap (i : Int) = (i : Int) := wrap_u64 i (by omega)
  have c1 : IntKind.u64.wrap (h : Int) = (h : Int) := wrap_u64 h (by omega)
  have d1 : ¬ (i : Int) < 0 := by omega
  have d2 : ¬ (i : Int) > 63 := by omega
  have d3 : ¬ (h : Int) > 6 := by omega
  have HG1 := Lib.hid (grownBy_trans hg0 hg1)
  have HB0 := Lib.hid hb0
  have HB1 := Lib.hid hb1
  have HW0 := Lib.hid hW0
  have HW1 := Lib.hid hW1
  have HXB := Lib.hid hXB
  have HWB := Lib.hid hWBn
  have HNEW := Lib.hid hnew
  have HNE := Lib.hid hne2
  have HEND := Lib.hid hend
  have HC := Lib.hid hc
  have HP := Lib.hid hp
  have F1 := Lib.hid (wr_num1 i (by omega) hWB (by show 0 ≤ _; omega))
  have F2 : Hid (∀ w', w.grownBy w' none → WrAt w' WB ⟨[str (be i 1)], 0⟩ → _) := Lib.hid fun w' g q => xwrite_any WB [str (be i 1)] C ca 35 cc hC (by omega) h1 (by rw [t1]; omega) w' (hc.grown g) q hneC
  have F3 : Hid (∀ w', WrAt w' WB ⟨C.reverse ++ [str (be i 1)], 0⟩ → _) := Lib.hid fun w' q => wr_num1 (w := w') h (by omega) q (by rw [t2]; omega)
  have F4 : Hid (∀ w', w.grownBy w' none → WrAt w' WB ⟨str (be h 1) :: (C.reverse ++ [str (be i 1)]), 0⟩ → _) := Lib.hid fun w' g q => xwrite_any WB _ P pa h pc hP (by omega) h2 (by rw [t3]; omega) w' (hp.grown g) q hneP
  have F5 : Hid (∀ w', WrAt w' WB ⟨P.reverse ++ (str (be h 1) :: (C.reverse ++ [str (be i 1)])), 0⟩ → _) := Lib.hid fun w' q => wr_bytesS (w := w') q (by show total (P.reverse ++ _) ≤ _; rw [t4]; omega)
  obtain ⟨x0, x1, x2⟩ := sig_cells hb0
  obtain ⟨y0, y1, y2⟩ := sig_cells hb1
  clear hb0 hb1 hg0 hg1 hW0 hW1 hWB hlt hXB hWBn hnew hne2 hneC hneP hend t1 t2 t3 t4 hc hp hi hC hP hh h1 h2
  go_enter Tryd.func59, Tryd.ntmps59
  go_wp2_with (first | rw [HW0.out, HXB.out] | rw [HW1.out, HWB.out])
  refine F1.out.mono ?_
  rintro e w2 ⟨rfl, hw2, g2⟩
  have W2 := Lib.hid hw2
  have G2 := Lib.hid (grown_row HG1.out g2 HNEW.out)
  have B2 := Lib.hid (HNE.out _ _ _ _ g2 HB1.out)
  clear hw2 g2 x0 x1 x2 y0 y1 y2
  obtain ⟨x0, x1, x2⟩ := sig_cells B2.out
  go_wp2_with fail
  refine (F2.out w2 G2.out W2.out).mono ?_
  rintro e w3 ⟨rfl, hw3, g3⟩
  have W3 := Lib.hid hw3
  have G3 := Lib.hid (grown_row G2.out g3 HNEW.out)
  have B3 := Lib.hid (HNE.out _ _ _ _ g3 B2.out)
  clear hw3 g3 x0 x1 x2
  obtain ⟨x0, x1, x2⟩ := sig_cells B3.out
  go_wp2_with fail
  refine (F3.out w3 W3.out).mono ?_
  rintro e w4 ⟨rfl, hw4, g4⟩
  have W4 := Lib.hid hw4
  have G4 := Lib.hid (grown_row G3.out g4 HNEW.out)
  have B4 := Lib.hid (HNE.out _ _ _ _ g4 B3.out)
  clear hw4 g4 x0 x1 x2
  obtain ⟨x0, x1, x2⟩ := sig_cells B4.out
  go_wp2_with fail
  refine (F4.out w4 G4.out W4.out).mono ?_
  rintro e w5 ⟨rfl, hw5, g5⟩
  have W5 := Lib.hid hw5
  have G5 := Lib.hid (grown_row G4.out g5 HNEW.out)
  clear hw5 g5 x0 x1 x2
  go_wp2_with fail
  refine (F5.out w5 W5.out).mono ?_
  rintro e w6 ⟨rfl, g6⟩
  have G6 := Lib.hid (grownBy_trans G5.out g6)
  clear g6
  go_wp2_with fail
  go_returns
  exact ⟨by rw [← HEND.out]; rfl, G6.out⟩
end Go.Proofs.YtioahjdojgcfdaaDoor

namespace Go.Proofs.YtioahjdojgcfdaaDoor
open Go.RowKit

def updL (l : ByteArray) (x : EntS) (i : Nat) (c p : Value) : List Value := [.string l, .int .u64 x.v, .string x.o, .string x.r, .int .i64 x.h, .string x.p, .int .i64 i, c, p]
/-- an update, as a value -/
def updV (l : ByteArray) (x : EntS) (i : Nat) (c p : Value) : Value := .agg #[.string l, .int .u64 x.v, .string x.o, .string x.r, .int .i64 x.h, .string x.p, .int .i64 i, c, p]
def updZ : Value := .agg #[.string ⟨#[]⟩, .int .u64 0, .string ⟨#[]⟩, .string ⟨#[]⟩, .int .i64 0, .string ⟨#[]⟩, .int .i64 0, .slice none 0 0, .slice none 0 0]
theorem cells9 {w : World} {b : Nat} {t : TypeId} {v0 v1 v2 v3 v4 v5 v6 v7 v8 : Value} (h : w.heap[b]? = some (.cells #[v0, v1, v2, v3, v4, v5, v6, v7, v8] t (0, 0))) :
    w.cell? ⟨b, 0, none⟩ = some v0 ∧ w.cell? ⟨b, 1, none⟩ = some v1 ∧ w.cell? ⟨b, 2, none⟩ = some v2 ∧ w.cell? ⟨b, 3, none⟩ = some v3 ∧ w.cell? ⟨b, 4, none⟩ = some v4 ∧ w.cell? ⟨b, 5, none⟩ = some v5 ∧ w.cell? ⟨b, 6, none⟩ = some v6 ∧ w.cell? ⟨b, 7, none⟩ = some v7 ∧ w.cell? ⟨b, 8, none⟩ = some v8 := by
  refine ⟨?_, ?_, ?_, ?_, ?_, ?_, ?_, ?_, ?_⟩ <;> rw [cell_of h] <;> rfl
theorem heap9 {w : World} {n : Nat} {t : TypeId} {u0 u1 u2 u3 u4 u5 u6 u7 u8 : Value} (h : w.heap[n]? = some (.cells #[u0, u1, u2, u3, u4, u5, u6, u7, u8] t (0, 0))) (v0 v1 v2 v3 v4 v5 v6 v7 v8 : Value) :
    (((((((((w.setCell ⟨n, 0, none⟩ v0).setCell ⟨n, 1, none⟩ v1).setCell ⟨n, 2, none⟩ v2).setCell ⟨n, 3, none⟩ v3).setCell ⟨n, 4, none⟩ v4).setCell ⟨n, 5, none⟩ v5).setCell ⟨n, 6, none⟩ v6).setCell ⟨n, 7, none⟩ v7).setCell ⟨n, 8, none⟩ v8).heap[n]? = some (.cells #[v0, v1, v2, v3, v4, v5, v6, v7, v8] t (0, 0)) := by
  have h1 : (((w.setCell ⟨n, 0, none⟩ v0).setCell ⟨n, 1, none⟩ v1).setCell ⟨n, 2, none⟩ v2).heap[n]? = some (.cells #[v0, v1, v2, u3, u4, u5, u6, u7, u8] t (0, 0)) := (heap_setCell (heap_setCell (heap_setCell h 0 v0) 1 v1) 2 v2).trans rfl
  generalize (((w.setCell ⟨n, 0, none⟩ v0).setCell ⟨n, 1, none⟩ v1).setCell ⟨n, 2, none⟩ v2) = wa at h1 ⊢
  have h2 : (((wa.setCell ⟨n, 3, none⟩ v3).setCell ⟨n, 4, none⟩ v4).setCell ⟨n, 5, none⟩ v5).heap[n]? = some (.cells #[v0, v1, v2, v3, v4, v5, u6, u7, u8] t (0, 0)) := (heap_setCell (heap_setCell (heap_setCell h1 3 v3) 4 v4) 5 v5).trans rfl
  generalize (((wa.setCell ⟨n, 3, none⟩ v3).setCell ⟨n, 4, none⟩ v4).setCell ⟨n, 5, none⟩ v5) = wb at h2 ⊢
  exact (heap_setCell (heap_setCell (heap_setCell h2 6 v6) 7 v7) 8 v8).trans rfl
theorem grown9 (w : World) (n : Nat) (v0 v1 v2 v3 v4 v5 v6 v7 v8 : Value) : w.grownBy (((((((((w.setCell ⟨n, 0, none⟩ v0).setCell ⟨n, 1, none⟩ v1).setCell ⟨n, 2, none⟩ v2).setCell ⟨n, 3, none⟩ v3).setCell ⟨n, 4, none⟩ v4).setCell ⟨n, 5, none⟩ v5).setCell ⟨n, 6, none⟩ v6).setCell ⟨n, 7, none⟩ v7).setCell ⟨n, 8, none⟩ v8) (some n) :=
  (grownBy_setCell (grownBy_setCell (grownBy_setCell (grownBy_setCell (grownBy_setCell (grownBy_setCell (grownBy_setCell (grownBy_setCell (grownBy_setCell (World.grownBy.refl w _) 0 _) 1 _) 2 _) 3 _) 4 _) 5 _) 6 _) 7 _) 8 _)
end Go.Proofs.YtioahjdojgcfdaaDoor

namespace Go.Proofs.YtioahjdojgcfdaaDoor
open Go.RowKit
attribute [local irreducible] shaL

theorem cells4 {w : World} {b : Nat} {t : TypeId} {v0 v1 v2 v3 : Value} (h : w.heap[b]? = some (.cells #[v0, v1, v2, v3] t (0, 0))) :
    w.cell? ⟨b, 0, none⟩ = some v0 ∧ w.cell? ⟨b, 1, none⟩ = some v1 ∧ w.cell? ⟨b, 2, none⟩ = some v2 ∧ w.cell? ⟨b, 3, none⟩ = some v3 := by
  refine ⟨?_, ?_, ?_, ?_⟩ <;> rw [cell_of h] <;> rfl
def noughts20 : ByteArray := ⟨#[0, 0, 0, 0, 0, 0, 0, 0, 0, 0, 0, 0, 0, 0, 0, 0]⟩
/-- the open seed of a key without a meaning -/
def keyO (c : UInt8) : ByteArray := str [c] ++ noughts20.extract 1 16
theorem keyO_size (c : UInt8) : (keyO c).size = 16 := by
  unfold keyO
  rw [ByteArray.size_append, str_size]
  rfl
theorem keyO_inj {c d : UInt8} (h : keyO c = keyO d) : c = d := by
  have := congrArg (fun s : ByteArray => s.data.toList) h
  simp only [keyO, ByteArray.data_append, Array.toList_append] at this
  have h1 : (str [c]).data.toList = [c] := rfl
  have h2 : (str [d]).data.toList = [d] := rfl
  rw [h1, h2, List.singleton_append, List.singleton_append] at this
  exact (List.cons.inj this).1
theorem results_key20 {n : Nat} {p0 p1 p2 : Value} {tmps : Array Value} {w : World} (h6 : tmps[4]? = some (.pointer (some ⟨n, 0, none⟩))) (hp : w.heap[n]? = some (.cells #[p0, p1, p2] 50 (0, 0))) :
    (results Tryd.f31 tmps).run Tryd.prog w = .ok (.agg #[p0, p1, p2]) w := by
  obtain ⟨d0, d1, d2⟩ := cells3 hp
  simp [results, Tryd.results31, go_sem, h6, d0, d1, d2]
set_option maxRecDepth 100000 in
set_option maxHeartbeats 800000 in
theorem key20_any (c : UInt8) (h : Int) (w : World) :
    Calls Tryd.prog 31 #[.int .u8 c.toNat, .int .i64 h] w fun e w' => e = .returned (.agg #[.string (keyO c), .string noughts20, .int .i64 h]) ∧ w.grownBy w' none := by
  obtain ⟨n, hn⟩ : ∃ n, w.heap.size = n := ⟨_, rfl⟩
  have hr0 := heap_alloc_at w (.cells #[.string ⟨#[]⟩, .string ⟨#[]⟩, .int .i64 0] 50) n hn
  have hg0 : w.grownBy (w.alloc (.cells #[.string ⟨#[]⟩, .string ⟨#[]⟩, .int .i64 0] 50)) none := World.grownBy_alloc _ _ _
  obtain ⟨W0, hW0⟩ : ∃ W0, w.alloc (.cells #[.string ⟨#[]⟩, .string ⟨#[]⟩, .int .i64 0] 50) = W0 := ⟨_, rfl⟩
  rw [hW0] at hr0 hg0
  have hz0 : W0.heap.size = n + 1 := by rw [← hW0, World.size_alloc, hn]
  have hcv' : (convert 57 9 (.slice (some ⟨W0.heap.size, 0, none⟩) 1 1)).run Tryd.prog (W0.alloc (.cells #[.int .u8 c.toNat] 5)).drew = .ok (.string (str [c])) (W0.alloc (.cells #[.int .u8 c.toNat] 5)).drew := by
    exact row_string (w := (W0.alloc (.cells #[.int .u8 c.toNat] 5)).drew) (l := [c]) (g := W0.heap.size) (t := 5) (heap_alloc_at _ _ _ rfl) _
  have hg1 : W0.grownBy (W0.alloc (.cells #[.int .u8 c.toNat] 5)) none := World.grownBy_alloc _ _ _
  have h1 := hg1.heap hr0 (by simp)
  have HK : Hid (keyO c = str [c] ++ noughts20.extract 1 16) := Lib.hid rfl
  have HGR := Lib.hid (grownBy_trans hg0 hg1)
  have H1 := Lib.hid h1
  have hz1 : (str [c]).size = 1 := rfl
  have q2 : (9223372036854775807 < (str [c]).size + 15) = False := eq_false (by omega)
  generalize str [c] = z at hcv' HK hz1 q2
  obtain ⟨p0, p1, p2⟩ := cells3 h1
  have pf := fun j => free_of h1 j
  have HN := Lib.hid (And.intro hW0 (And.intro hn hz0))
  clear hr0 hg0 hW0 hz0 hn hg1 h1
  go_enter Tryd.func31, Tryd.ntmps31
  go_wp2_with (first | rw [HN.out.1, HN.out.2.1] | rw [HN.out.1])
  go_region
  go_wp2_with fail
  have hd : (W0.alloc (.cells #[.int .u8 c.toNat] 5)).drew.heap[n]? = some (.cells #[.string ⟨#[]⟩, .string ⟨#[]⟩, .int .i64 0] 50 (0, 0)) := H1.out
  refine bodyPost_ret (results_key20 (n := n) (p0 := .string (z ++ (⟨#[0, 0, 0, 0, 0, 0, 0, 0, 0, 0, 0, 0, 0, 0, 0, 0]⟩ : ByteArray).extract 1 16)) (p1 := .string ⟨#[0, 0, 0, 0, 0, 0, 0, 0, 0, 0, 0, 0, 0, 0, 0, 0]⟩) (p2 := .int .i64 h) rfl (heap3 hd _ _ _)) rfl ?_
  refine ⟨by rw [HK.out]; rfl, ?_⟩
  exact grown_row (grownBy_drew HGR.out) (grown3 _ n _ _ _) (fun y e => by cases e; have := HN.out.2.1; omega)
set_option maxRecDepth 100000 in
set_option maxHeartbeats 800000 in
theorem rnew_any (w : World) :
    Calls Tryd.prog 29 #[] w fun e w' => e = .returned (.pointer (some ⟨w.heap.size, 0, none⟩)) ∧ w'.heap[w.heap.size]? = some (.cells #[.slice none 0 0] 125 (0, 0)) ∧ w.grownBy w' none := by
  have H := Lib.hid (And.intro (heap_alloc_at w (.cells #[.slice none 0 0] 125) _ rfl) (World.grownBy_alloc w (.cells #[.slice none 0 0] 125) none))
  go_enter Tryd.func29, Tryd.ntmps29
  go_wp2_with fail
  go_ret
  exact ⟨rfl, H.out⟩
set_option maxRecDepth 100000 in
set_option maxHeartbeats 800000 in
theorem rlen_any (rb : Nat) (a : Option Addr) (n c : Nat) (w : World) (h : w.heap[rb]? = some (.cells #[.slice a n c] 125 (0, 0))) :
    Calls Tryd.prog 33 #[.pointer (some ⟨rb, 0, none⟩)] w fun e w' => e = .returned (.int .i64 n) ∧ w = w' := by
  have c0 : w.cell? ⟨rb, 0, none⟩ = some (.slice a n c) := by rw [cell_of h]; rfl
  clear h
  go_enter Tryd.func33, Tryd.ntmps33
  go_wp2_with fail
  go_ret
  exact ⟨rfl, rfl⟩
/-- label.Normal, at every world behind -/
def NormAt (w : World) : Prop := ∀ (s : ByteArray) (w' : World), s.size ≤ 1000000 → w.grownBy w' none → Calls Tryd.prog 113 #[.string s] w' fun e w'' => e = .returned (.tuple #[.string ⟨(normalI s.data.toList).1.toArray⟩, .int .i64 (normalI s.data.toList).2]) ∧ w'.grownBy w'' none
theorem NormAt.grown {w w' : World} (h : NormAt w) (g : w.grownBy w' none) : NormAt w' := fun s w'' hs g2 => h s w'' hs (grownBy_trans g g2)
set_option maxRecDepth 100000 in
set_option maxHeartbeats 1600000 in
theorem rcheck_any (x : AudS) (hx : x.small) (w : World) (hN : NormAt w) :
    Calls Tryd.prog 75 #[x.val] w fun e w' => e = .returned (.int .i64 x.err) ∧ w.grownBy w' none := by
  obtain ⟨nm, o, r, h⟩ := x
  obtain ⟨h1, h2, h3⟩ := hx
  have h1 : nm.size ≤ 1000000 := h1
  have h2 : o.size ≤ 100000 := h2
  have h3 : r.size ≤ 100000 := h3
  obtain ⟨ER, hER⟩ : ∃ ER, (⟨nm, o, r, h⟩ : AudS).err = ER := ⟨_, rfl⟩
  rw [hER]
  unfold AudS.err nameE at hER
  have hER : (if (if (normalI nm.data.toList).2 ≠ 0 then (normalI nm.data.toList).2 else if (normalI nm.data.toList).1 = nm.data.toList then 0 else 4) ≠ 0 then (if (normalI nm.data.toList).2 ≠ 0 then (normalI nm.data.toList).2 else if (normalI nm.data.toList).1 = nm.data.toList then 0 else 4) else pubErr o r h) = ER := hER
  have hN1 := fun w' g => hN nm w' h1 g
  obtain ⟨M, hM⟩ : ∃ M : ByteArray, (⟨(normalI nm.data.toList).1.toArray⟩ : ByteArray) = M := ⟨_, rfl⟩
  have hMn : (normalI nm.data.toList).1 = nm.data.toList ↔ M = nm := by
    rw [← hM]
    constructor
    · intro q; apply ByteArray.ext; rw [q]
    · intro q; exact congrArg (fun s : ByteArray => s.data.toList) q
  rw [hM] at hN1
  obtain ⟨E, hE⟩ : ∃ E, (normalI nm.data.toList).2 = E := ⟨_, rfl⟩
  rw [hE] at hN1 hER
  have HN := Lib.hid hN1
  have HP := Lib.hid (fun w' => pencode_any o r h h2 h3 w')
  obtain ⟨PE, hPE⟩ : ∃ PE, pubErr o r h = PE := ⟨_, rfl⟩
  rw [hPE] at HP hER
  generalize pubEnc o r h = PB at HP
  unfold pubZ at HP
  unfold AudS.val AudS.cells
  simp only
  have hb0 := heap_alloc_at w (.cells #[.string nm, .string o, .string r, .int .i64 h] 82) _ rfl
  have hg0 := World.grownBy_alloc w (.cells #[.string nm, .string o, .string r, .int .i64 h] 82) none
  obtain ⟨W0, hW0⟩ : ∃ W0, w.alloc (.cells #[.string nm, .string o, .string r, .int .i64 h] 82) = W0 := ⟨_, rfl⟩
  rw [hW0] at hb0 hg0
  obtain ⟨x0, x1, x2, x3⟩ := cells4 hb0
  have HB := Lib.hid (And.intro hb0 hg0)
  have HW := Lib.hid hW0
  clear hb0 hg0 hW0 hN hN1 h1 h2 h3 hM hE hPE
  by_cases e0 : E = 0
  · rw [if_neg (not_not_intro e0)] at hER
    have q1 : (E != 0) = false := by simp [e0]
    by_cases hm : M = nm
    · rw [if_pos (hMn.2 hm), if_neg (by decide)] at hER
      have q2 : (M.toList == nm.toList) = true := by rw [eq_strE]; simpa using hm
      have q3 : (M.toList != nm.toList) = false := by rw [bne, q2]; rfl
      subst hER
      clear hMn e0 hm
      go_enter Tryd.func75, Tryd.ntmps75
      go_wp2_with (rw [HW.out])
      refine (HN.out _ HB.out.2).mono ?_
      rintro e w1 ⟨rfl, g1⟩
      have HB1 := Lib.hid (And.intro (g1.heap HB.out.1 (by simp)) (grownBy_trans HB.out.2 g1))
      clear g1 x0 x1 x2 x3
      obtain ⟨x0, x1, x2, x3⟩ := cells4 HB1.out.1
      go_wp2_with fail
      refine (HP.out _).mono ?_
      rintro e w2 ⟨rfl, g2⟩
      have HG2 := Lib.hid (grownBy_trans HB1.out.2 g2)
      clear g2 x0 x1 x2 x3
      go_wp2_with fail
      go_ret
      exact ⟨rfl, HG2.out⟩
    · rw [if_neg (fun q => hm (hMn.1 q)), if_pos (by decide)] at hER
      have q2 : (M.toList == nm.toList) = false := by rw [eq_strE]; simpa using hm
      have q3 : (M.toList != nm.toList) = true := by rw [bne, q2]; rfl
      subst hER
      clear hMn e0 hm
      go_enter Tryd.func75, Tryd.ntmps75
      go_wp2_with (rw [HW.out])
      refine (HN.out _ HB.out.2).mono ?_
      rintro e w1 ⟨rfl, g1⟩
      have HB1 := Lib.hid (And.intro (g1.heap HB.out.1 (by simp)) (grownBy_trans HB.out.2 g1))
      clear g1 x0 x1 x2 x3
      obtain ⟨x0, x1, x2, x3⟩ := cells4 HB1.out.1
      go_wp2_with fail
      go_ret
      exact ⟨rfl, HB1.out.2⟩
  · rw [if_pos e0, if_pos e0] at hER
    have q1 : (E != 0) = true := by simp [e0]
    subst hER
    clear hMn e0
    go_enter Tryd.func75, Tryd.ntmps75
    go_wp2_with (rw [HW.out])
    refine (HN.out _ HB.out.2).mono ?_
    rintro e w1 ⟨rfl, g1⟩
    have HG1 := Lib.hid (grownBy_trans HB.out.2 g1)
    clear g1 x0 x1 x2 x3
    go_wp2_with fail
    go_ret
    exact ⟨rfl, HG1.out⟩
end Go.Proofs.YtioahjdojgcfdaaDoor

namespace Go.Proofs.YtioahjdojgcfdaaDoor
open Go.RowKit
attribute [local irreducible] shaL

set_option maxRecDepth 100000 in
set_option maxHeartbeats 1600000 in
theorem has1_any (x y : AudS) (bx : Nat) (w : World) (hx : w.heap[bx]? = some (.cells x.cells.toArray 82 (0, 0))) :
    Calls Tryd.prog 115 #[y.val, .pointer (some ⟨bx, 0, none⟩)] w fun e w' => e = .returned (.bool (x.like y)) ∧ w.grownBy w' none := by
  obtain ⟨n, o, r, h⟩ := x
  obtain ⟨n', o', r', h'⟩ := y
  unfold AudS.val AudS.cells AudS.like at *
  simp only at hx ⊢
  have hb0 := heap_alloc_at w (.cells #[.string n', .string o', .string r', .int .i64 h'] 82) _ rfl
  have hg0 := World.grownBy_alloc w (.cells #[.string n', .string o', .string r', .int .i64 h'] 82) none
  have hx0 := hg0.heap hx (by simp)
  obtain ⟨W0, hW0⟩ : ∃ W0, w.alloc (.cells #[.string n', .string o', .string r', .int .i64 h'] 82) = W0 := ⟨_, rfl⟩
  rw [hW0] at hb0 hg0 hx0
  obtain ⟨y0, y1, y2, y3⟩ := cells4 hb0
  obtain ⟨x0, x1, x2, x3⟩ := cells4 hx0
  have HW := Lib.hid hW0
  have HG := Lib.hid hg0
  clear hb0 hg0 hx0 hW0 hx
  by_cases e1 : n' = n
  · have q1 : (n'.toList == n.toList) = true := by rw [eq_strE]; simpa using e1
    rw [decide_eq_true e1, Bool.true_or]
    clear e1
    go_enter Tryd.func115, Tryd.ntmps115
    go_wp2_with (rw [HW.out])
    go_ret
    exact ⟨rfl, HG.out⟩
  · have q1 : (n'.toList == n.toList) = false := by rw [eq_strE]; simpa using e1
    rw [decide_eq_false e1, Bool.false_or]
    clear e1
    by_cases e2 : o' = o
    · have q2 : (o'.toList == o.toList) = true := by rw [eq_strE]; simpa using e2
      rw [decide_eq_true e2, Bool.true_and]
      clear e2
      by_cases e3 : r' = r
      · have q3 : (r'.toList == r.toList) = true := by rw [eq_strE]; simpa using e3
        rw [decide_eq_true e3, Bool.true_and]
        clear e3
        by_cases e4 : h' = h
        · have q4 : (h' == h) = true := by simpa using e4
          rw [decide_eq_true e4]
          clear e4
          go_enter Tryd.func115, Tryd.ntmps115
          go_wp2_with (rw [HW.out])
          go_ret
          exact ⟨rfl, HG.out⟩
        · have q4 : (h' == h) = false := by simpa using e4
          rw [decide_eq_false e4]
          clear e4
          go_enter Tryd.func115, Tryd.ntmps115
          go_wp2_with (rw [HW.out])
          go_ret
          exact ⟨rfl, HG.out⟩
      · have q3 : (r'.toList == r.toList) = false := by rw [eq_strE]; simpa using e3
        rw [decide_eq_false e3, Bool.false_and]
        clear e3
        go_enter Tryd.func115, Tryd.ntmps115
        go_wp2_with (rw [HW.out])
        go_ret
        exact ⟨rfl, HG.out⟩
    · have q2 : (o'.toList == o.toList) = false := by rw [eq_strE]; simpa using e2
      rw [decide_eq_false e2, Bool.false_and]
      clear e2
      go_enter Tryd.func115, Tryd.ntmps115
      go_wp2_with (rw [HW.out])
      go_ret
      exact ⟨rfl, HG.out⟩
/-- a row of auditors -/
def AudsAt (w : World) (v : Value) (L : List AudS) : Prop :=
  ∃ a cap, v = .slice a L.length cap ∧ ∀ i (h : i < L.length), ∃ g o, a = some ⟨g, o, none⟩ ∧ w.cell? ⟨g, o + i * 4, none⟩ = some (.string L[i].n) ∧ w.cell? ⟨g, o + i * 4 + 1, none⟩ = some (.string L[i].o) ∧ w.cell? ⟨g, o + i * 4 + 2, none⟩ = some (.string L[i].r) ∧ w.cell? ⟨g, o + i * 4 + 3, none⟩ = some (.int .i64 L[i].h)
theorem AudsAt.grown {w w' : World} {v : Value} {L : List AudS} (h : AudsAt w v L) (k : w.grownBy w' none) : AudsAt w' v L := by
  obtain ⟨a, cap, rfl, hc⟩ := h
  refine ⟨a, cap, rfl, fun i hi => ?_⟩
  obtain ⟨g, o, ha, c0, c1, c2, c3⟩ := hc i hi
  exact ⟨g, o, ha, k.cell c0 (by simp), k.cell c1 (by simp), k.cell c2 (by simp), k.cell c3 (by simp)⟩
theorem AudsAt.at_ {w : World} {a : Option Addr} {n cap : Nat} {L : List AudS} (h : AudsAt w (.slice a n cap) L) (i : Nat) (x : AudS) (hx : L[i]? = some x) : ∃ g o, a = some ⟨g, o, none⟩ ∧ w.cell? ⟨g, o + i * 4, none⟩ = some (.string x.n) ∧ w.cell? ⟨g, o + i * 4 + 1, none⟩ = some (.string x.o) ∧ w.cell? ⟨g, o + i * 4 + 2, none⟩ = some (.string x.r) ∧ w.cell? ⟨g, o + i * 4 + 3, none⟩ = some (.int .i64 x.h) := by
  obtain ⟨a', cap', e, hc⟩ := h
  cases e
  obtain ⟨hi, rfl⟩ := List.getElem?_eq_some_iff.1 hx
  exact hc i hi
theorem AudsAt.len {w : World} {a : Option Addr} {n cap : Nat} {L : List AudS} (h : AudsAt w (.slice a n cap) L) : L.length = n := by
  obtain ⟨_, _, e, _⟩ := h
  injection e with _ e _
  exact e.symm
theorem auds_own {w : World} {B : Nat} {v : Value} {L : List AudS} (h : w.ownsRow B 82 4 v L.length (audsV L)) : AudsAt w v L := by
  rcases h.2 with ⟨rfl, h0⟩ | ⟨g, cap, cur, rfl, hB, hg, h1, h2, h3, h4⟩
  · exact ⟨none, 0, by rw [h0], fun i hi => by omega⟩
  · have hc : ∀ i j, i < L.length → j < 4 → w.cell? ⟨g, i * 4 + j, none⟩ = (audsV L)[i * 4 + j]? := by
      intro i j hi hj
      rw [← h4, List.getElem?_take, if_pos (by omega), cell_of hg]
      simp
    refine ⟨some ⟨g, 0, none⟩, cap, rfl, fun i hi => ⟨g, 0, rfl, ?_, ?_, ?_, ?_⟩⟩
    · rw [Nat.zero_add]; exact (hc i 0 hi (by decide)).trans (audsV_at L i 0 hi (by decide))
    · rw [Nat.zero_add]; exact (hc i 1 hi (by decide)).trans (audsV_at L i 1 hi (by decide))
    · rw [Nat.zero_add]; exact (hc i 2 hi (by decide)).trans (audsV_at L i 2 hi (by decide))
    · rw [Nat.zero_add]; exact (hc i 3 hi (by decide)).trans (audsV_at L i 3 hi (by decide))
set_option maxRecDepth 100000 in
set_option maxHeartbeats 1600000 in
theorem rindex_any (x : AudS) (bx : Nat) (a : Option Addr) (n c : Nat) (L : List AudS) (w : World) (hx : w.heap[bx]? = some (.cells x.cells.toArray 82 (0, 0))) (hv : AudsAt w (.slice a n c) L) (hn : n ≤ 1000) :
    Calls Tryd.prog 134 #[.slice a n c, .func (Fn.func 115) #[] #[.pointer (some ⟨bx, 0, none⟩)]] w fun e w' => ∃ i : Int, e = .returned (.int .i64 i) ∧ (hasL L x = decide (0 ≤ i)) ∧ w.grownBy w' none := by
  have hln := hv.len
  have HV := Lib.hid hv
  have HX := Lib.hid hx
  have HLN := Lib.hid hln
  clear hv hx hln
  go_enter Tryd.func134, Tryd.ntmps134
  go_wp2_with fail
  go_loopw [5, 8] (fun _ iv wr => ∃ k : Nat, k ≤ n ∧ iv = .int .i64 k ∧ Hid (hasL (L.take k) x = false) ∧ Hid (w.grownBy wr none)) (fun _ iv _ => n - (intOf iv).toNat)
  case atStart => exact ⟨0, Nat.zero_le _, rfl, Lib.hid rfl, World.grownBy.refl _ _⟩
  case round =>
    obtain ⟨k, hk, rfl, HK, HG⟩ := hrel
    by_cases hlt : k < n
    · have d1 : (k : Int) < (n : Int) := by omega
      have d0 : (0 : Int) ≤ (k : Int) := by omega
      have hkl : k < L.length := by have := HLN.out; omega
      obtain ⟨y, hy⟩ : ∃ y, L[k]? = some y := ⟨_, List.getElem?_eq_getElem hkl⟩
      have hye : L[k] = y := (List.getElem?_eq_some_iff.1 hy).2
      have hst := hasL_take L x k hkl
      rw [HK.out, hye, Bool.false_or] at hst
      obtain ⟨g, o, rfl, c0, c1, c2, c3⟩ := HV.out.at_ k y hy
      have c0 := HG.out.cell c0 (by simp)
      have c1 := HG.out.cell c1 (by simp)
      have c2 := HG.out.cell c2 (by simp)
      have c3 := HG.out.cell c3 (by simp)
      have HF := Lib.hid (has1_any x y bx wr (HG.out.heap HX.out (by simp)))
      have HST := Lib.hid hst
      unfold AudS.val AudS.cells at HF
      clear hst hy hye
      obtain ⟨z, hz⟩ : ∃ z, x.like y = z := ⟨_, rfl⟩
      rw [hz] at HF HST
      clear hz
      cases z
      · go_wp2_with fail
        refine HF.out.mono ?_
        rintro e w3 ⟨rfl, g3⟩
        have HG3 := Lib.hid (grownBy_trans HG.out g3)
        clear g3
        go_wp2_with fail
        go_roundw
        case rel => exact ⟨k + 1, by omega, by go_num, HST, HG3⟩
        case measure => simp [intOf]; omega
      · go_wp2_with fail
        refine HF.out.mono ?_
        rintro e w3 ⟨rfl, g3⟩
        have HG3 := Lib.hid (grownBy_trans HG.out g3)
        clear g3
        go_wp2_with fail
        go_ret
        refine ⟨(k : Int), rfl, ?_, HG3.out⟩
        rw [decide_eq_true d0]
        exact hasL_more L x (k + 1) HST.out
    · have hkn : k = n := by omega
      have d1 : ¬ (k : Int) < (n : Int) := by omega
      have hfin : hasL L x = false := by
        have := HK.out
        rwa [List.take_of_length_le (by have := HLN.out; omega)] at this
      have HFI := Lib.hid hfin
      clear hfin hkn
      go_wp2_with fail
      go_ret
      exact ⟨-1, rfl, by rw [HFI.out]; rfl, HG.out⟩
set_option maxRecDepth 100000 in
set_option maxHeartbeats 1600000 in
theorem rcontains_any (x : AudS) (bx : Nat) (a : Option Addr) (n c : Nat) (L : List AudS) (w : World) (hx : w.heap[bx]? = some (.cells x.cells.toArray 82 (0, 0))) (hv : AudsAt w (.slice a n c) L) (hn : n ≤ 1000) :
    Calls Tryd.prog 114 #[.slice a n c, .func (Fn.func 115) #[] #[.pointer (some ⟨bx, 0, none⟩)]] w fun e w' => e = .returned (.bool (hasL L x)) ∧ w.grownBy w' none := by
  have H := Lib.hid (rindex_any x bx a n c L w hx hv hn)
  clear hx hv
  go_enter Tryd.func114, Tryd.ntmps114
  go_wp2_with fail
  refine H.out.mono ?_
  rintro e w1 ⟨i, rfl, hi, g1⟩
  have HI := Lib.hid (And.intro hi g1)
  clear hi g1
  go_wp2_with fail
  go_ret
  exact ⟨by rw [HI.out.1]; rfl, HI.out.2⟩
set_option maxRecDepth 100000 in
set_option maxHeartbeats 1600000 in
theorem rhas_any (x : AudS) (rb : Nat) (a : Option Addr) (n c : Nat) (L : List AudS) (w : World) (hr : w.heap[rb]? = some (.cells #[.slice a n c] 125 (0, 0))) (hv : AudsAt w (.slice a n c) L) (hn : n ≤ 1000) :
    Calls Tryd.prog 76 #[.pointer (some ⟨rb, 0, none⟩), x.val] w fun e w' => e = .returned (.bool (hasL L x)) ∧ w.grownBy w' none := by
  have hg0 := World.grownBy_alloc w (.cells x.cells.toArray 82) none
  have hb0 := heap_alloc_at w (.cells x.cells.toArray 82) _ rfl
  have HC := Lib.hid (rcontains_any x w.heap.size a n c L (w.alloc (.cells x.cells.toArray 82)) hb0 (hv.grown hg0) hn)
  have c0 : (w.alloc (.cells x.cells.toArray 82)).cell? ⟨rb, 0, none⟩ = some (.slice a n c) := by rw [cell_of (hg0.heap hr (by simp))]; rfl
  have HG := Lib.hid hg0
  unfold AudS.val AudS.cells at *
  obtain ⟨W0, hW0⟩ : ∃ W0, w.alloc (.cells [.string x.n, .string x.o, .string x.r, .int .i64 x.h].toArray 82) = W0 := ⟨_, rfl⟩
  rw [hW0] at HC c0 HG
  have HW := Lib.hid hW0
  clear hg0 hb0 hr hv hW0
  go_enter Tryd.func76, Tryd.ntmps76
  go_wp2_with (rw [HW.out])
  refine HC.out.mono ?_
  rintro e w1 ⟨rfl, g1⟩
  have HG1 := Lib.hid (grownBy_trans HG.out g1)
  clear g1
  go_wp2_with fail
  go_ret
  exact ⟨rfl, HG1.out⟩
end Go.Proofs.YtioahjdojgcfdaaDoor

namespace Go.Proofs.YtioahjdojgcfdaaDoor
open Go.RowKit
attribute [local irreducible] shaL

theorem infoAud : (Tryd.prog.info? 82).map (fun i => (i.zero, i.size, i.bytes)) = some (some (.agg #[.string ⟨#[]⟩, .string ⟨#[]⟩, .string ⟨#[]⟩, .int .i64 0]), 4, 56) := by kernel_rfl
/-- a roster in memory, its row among the blocks from n0 on -/
structure RosAt (n0 rb : Nat) (L : List AudS) (v : Value) (w : World) : Prop where
  h : w.heap[rb]? = some (.cells #[v] 125 (0, 0))
  o : w.ownsRow n0 82 4 v L.length (audsV L)
  ne : v.ownBlock ≠ some rb
  l : n0 ≤ rb
theorem RosAt.form {n0 rb : Nat} {L : List AudS} {v : Value} {w : World} (h : RosAt n0 rb L v w) : ∃ a c, v = .slice a L.length c := by
  rcases h.o.2 with ⟨rfl, h0⟩ | ⟨g, cap, cur, rfl, _⟩
  · exact ⟨none, 0, by rw [h0]⟩
  · exact ⟨_, cap, rfl⟩
theorem own_keepR {w w' : World} {B n s : Nat} {t : TypeId} {v : Value} {xs : List Value} {row : Option Nat} (h : w.ownsRow B t s v n xs) (k : w.grownBy w' row) (hne : ∀ x, v.ownBlock = some x → row ≠ some x) : w'.ownsRow B t s v n xs := by
  refine ⟨h.1, ?_⟩
  rcases h.2 with h' | ⟨g, cap, cur, rfl, hB, hg, r⟩
  · exact .inl h'
  · exact .inr ⟨g, cap, cur, rfl, hB, (k.block g (Array.getElem?_eq_some_iff.1 hg).1 (fun e => hne g rfl e.symm)).trans hg, r⟩
theorem RosAt.go {n0 rb : Nat} {L : List AudS} {v : Value} {w w' : World} (h : RosAt n0 rb L v w) (g : w.grownBy w' none) : RosAt n0 rb L v w' :=
  ⟨g.heap h.h (by simp), own_keepR h.o g (fun _ _ e => by cases e), h.ne, h.l⟩
theorem RosAt.lt {n0 rb : Nat} {L : List AudS} {v : Value} {w : World} (h : RosAt n0 rb L v w) : rb < w.heap.size := (Array.getElem?_eq_some_iff.1 h.h).1
set_option maxRecDepth 100000 in
set_option maxHeartbeats 1600000 in
theorem radd_no (x : AudS) (hx : x.small) (n0 rb : Nat) (L : List AudS) (v : Value) (hl : L.length ≤ 100) (er : Int) (he : addE L x = er) (h0 : er ≠ 0) (w : World) (hN : NormAt w) (hR : RosAt n0 rb L v w) :
    Calls Tryd.prog 30 #[.pointer (some ⟨rb, 0, none⟩), x.val] w fun e w' => e = .returned (.tuple #[.int .i64 0, .int .i64 er]) ∧ w.grownBy w' none := by
  obtain ⟨a, c, rfl⟩ := hR.form
  have hg0 := World.grownBy_alloc w (.cells x.cells.toArray 82) none
  have hb0 := heap_alloc_at w (.cells x.cells.toArray 82) _ rfl
  obtain ⟨W0, hW0⟩ : ∃ W0, w.alloc (.cells x.cells.toArray 82) = W0 := ⟨_, rfl⟩
  rw [hW0] at hg0 hb0
  obtain ⟨y0, y1, y2, y3⟩ := cells4 hb0
  have HCK := Lib.hid (fun w' g => rcheck_any x hx w' (hN.grown g))
  have HHA := Lib.hid (fun w' (g : w.grownBy w' none) => rhas_any x rb a L.length c L w' (hR.go g).h (auds_own (hR.go g).o) (by omega))
  have HLE := Lib.hid (fun w' (g : w.grownBy w' none) => rlen_any rb a L.length c w' (hR.go g).h)
  have HB := Lib.hid (And.intro hb0 hg0)
  have HW := Lib.hid hW0
  unfold addE at he
  obtain ⟨E, hE⟩ : ∃ E, x.err = E := ⟨_, rfl⟩
  rw [hE] at he HCK
  obtain ⟨H, hH⟩ : ∃ H, hasL L x = H := ⟨_, rfl⟩
  rw [hH] at he HHA
  unfold AudS.val AudS.cells at *
  clear hb0 hg0 hW0 hN hR hx hE hH
  by_cases e0 : E = 0
  · have q1 : (E != 0) = false := by simp [e0]
    rw [if_neg (not_not_intro e0)] at he
    clear e0
    cases H
    · rw [if_neg (by decide)] at he
      by_cases h64 : 64 ≤ L.length
      · rw [if_pos h64] at he
        subst he
        have q2 : (64 : Int) ≤ (L.length : Int) := by omega
        clear h64 h0
        go_enter Tryd.func30, Tryd.ntmps30
        go_wp2_with (rw [HW.out])
        refine (HCK.out _ HB.out.2).mono ?_
        rintro e w1 ⟨rfl, g1⟩
        have HB1 := Lib.hid (And.intro (g1.heap HB.out.1 (by simp)) (grownBy_trans HB.out.2 g1))
        clear g1 y0 y1 y2 y3
        obtain ⟨y0, y1, y2, y3⟩ := cells4 HB1.out.1
        go_wp2_with fail
        refine (HHA.out _ HB1.out.2).mono ?_
        rintro e w2 ⟨rfl, g2⟩
        have HG2 := Lib.hid (grownBy_trans HB1.out.2 g2)
        clear g2 y0 y1 y2 y3
        go_wp2_with fail
        refine (HLE.out _ HG2.out).mono ?_
        rintro e w3 ⟨rfl, rfl⟩
        go_wp2_with fail
        go_returns
        exact ⟨rfl, HG2.out⟩
      · rw [if_neg h64] at he
        exact absurd he.symm h0
    · rw [if_pos rfl] at he
      subst he
      clear h0
      go_enter Tryd.func30, Tryd.ntmps30
      go_wp2_with (rw [HW.out])
      refine (HCK.out _ HB.out.2).mono ?_
      rintro e w1 ⟨rfl, g1⟩
      have HB1 := Lib.hid (And.intro (g1.heap HB.out.1 (by simp)) (grownBy_trans HB.out.2 g1))
      clear g1 y0 y1 y2 y3
      obtain ⟨y0, y1, y2, y3⟩ := cells4 HB1.out.1
      go_wp2_with fail
      refine (HHA.out _ HB1.out.2).mono ?_
      rintro e w2 ⟨rfl, g2⟩
      have HG2 := Lib.hid (grownBy_trans HB1.out.2 g2)
      clear g2 y0 y1 y2 y3
      go_wp2_with fail
      go_returns
      exact ⟨rfl, HG2.out⟩
  · have q1 : (E != 0) = true := by simp [e0]
    rw [if_pos e0] at he
    subst he
    clear e0 h0
    go_enter Tryd.func30, Tryd.ntmps30
    go_wp2_with (rw [HW.out])
    refine (HCK.out _ HB.out.2).mono ?_
    rintro e w1 ⟨rfl, g1⟩
    have HG1 := Lib.hid (grownBy_trans HB.out.2 g1)
    clear g1 y0 y1 y2 y3
    go_wp2_with fail
    go_returns
    exact ⟨rfl, HG1.out⟩
set_option maxRecDepth 100000 in
set_option maxHeartbeats 3200000 in
theorem radd_fine (x : AudS) (hx : x.small) (n0 rb : Nat) (L : List AudS) (v : Value) (he : addE L x = 0) (w : World) (hN : NormAt w) (hR : RosAt n0 rb L v w) :
    Calls Tryd.prog 30 #[.pointer (some ⟨rb, 0, none⟩), x.val] w fun e w' => e = .returned (.tuple #[.int .i64 L.length, .int .i64 0]) ∧ ∃ v' w1, RosAt n0 rb (L ++ [x]) v' w' ∧ w.grownBy w1 v.ownBlock ∧ w1.grownBy w' (some rb) ∧ (v'.ownBlock = v.ownBlock ∨ ∀ y, v'.ownBlock = some y → w.heap.size ≤ y) := by
  obtain ⟨i0, hti, hz0, hz1, hz2⟩ := info_parts infoAud
  obtain ⟨a, c, rfl⟩ := hR.form
  have hll := addE_zero he
  have hg0 := World.grownBy_alloc w (.cells x.cells.toArray 82) none
  have hb0 := heap_alloc_at w (.cells x.cells.toArray 82) _ rfl
  obtain ⟨XB, hXB⟩ : ∃ XB, w.heap.size = XB := ⟨_, rfl⟩
  obtain ⟨W0, hW0⟩ : ∃ W0, w.alloc (.cells x.cells.toArray 82) = W0 := ⟨_, rfl⟩
  rw [hW0] at hg0 hb0
  rw [hXB] at hb0
  obtain ⟨y0, y1, y2, y3⟩ := cells4 hb0
  have HCK := Lib.hid (fun w' g => rcheck_any x hx w' (hN.grown g))
  have HHA := Lib.hid (fun w' (g : w.grownBy w' none) => rhas_any x rb a L.length c L w' (hR.go g).h (auds_own (hR.go g).o) (by omega))
  have HLE := Lib.hid (fun w' (g : w.grownBy w' none) => rlen_any rb a L.length c w' (hR.go g).h)
  have HB := Lib.hid (And.intro hb0 hg0)
  have HW := Lib.hid (And.intro hW0 hXB)
  have HR := Lib.hid hR
  rw [hll.1] at HCK
  rw [hll.2.1] at HHA
  have q1 : ¬ ((64 : Int) ≤ (L.length : Int)) := by omega
  have HLL := Lib.hid hll.2.2
  have hxl := hR.lt
  rw [hXB] at hxl
  unfold AudS.val AudS.cells at *
  clear hb0 hg0 hW0 hN hR hx hXB hll he
  go_enter Tryd.func30, Tryd.ntmps30
  go_wp2_with (rw [HW.out.1, HW.out.2])
  refine (HCK.out _ HB.out.2).mono ?_
  rintro e w1 ⟨rfl, g1⟩
  have HB1 := Lib.hid (And.intro (g1.heap HB.out.1 (by simp)) (grownBy_trans HB.out.2 g1))
  clear g1 y0 y1 y2 y3
  obtain ⟨y0, y1, y2, y3⟩ := cells4 HB1.out.1
  go_wp2_with fail
  refine (HHA.out _ HB1.out.2).mono ?_
  rintro e w2 ⟨rfl, g2⟩
  have HB2 := Lib.hid (And.intro (g2.heap HB1.out.1 (by simp)) (grownBy_trans HB1.out.2 g2))
  clear g2 y0 y1 y2 y3
  go_wp2_with fail
  refine (HLE.out _ HB2.out.2).mono ?_
  rintro e w3 ⟨rfl, hw3⟩
  subst hw3
  have HR2 := Lib.hid (HR.out.go HB2.out.2)
  obtain ⟨y0, y1, y2, y3⟩ := cells4 HB2.out.1
  have r0 : w2.cell? ⟨rb, 0, none⟩ = some (.slice a L.length c) := by rw [cell_of HR2.out.h]; rfl
  have hrf := free_of HR2.out.h 0
  have ga := World.grownBy_alloc w2 (.cells #[.string x.n, .string x.o, .string x.r, .int .i64 x.h] 82) none
  have hba := heap_alloc_at w2 (.cells #[.string x.n, .string x.o, .string x.r, .int .i64 x.h] 82) _ rfl
  have HRA := Lib.hid ((HR2.out.go ga).go (grownBy_drew (World.grownBy.refl _ none)))
  have HBA := Lib.hid hba
  have HGA := Lib.hid (grownBy_trans HB2.out.2 ga)
  have hbs : n0 ≤ (w2.alloc (.cells #[.string x.n, .string x.o, .string x.r, .int .i64 x.h] 82)).drew.heap.size := by
    have h1 := HRA.out.l
    have h2 := HRA.out.lt
    omega
  have HBS := Lib.hid hbs
  have hl1 : L.length + 1 ≤ maxLen := by have := HLL.out; unfold maxLen; omega
  have hl2 : (L.length + 1) * 56 ≤ 140737488355328 := by have := HLL.out; omega
  have HL2 := Lib.hid (And.intro hl1 hl2)
  have r1 : (w2.alloc (.cells #[.string x.n, .string x.o, .string x.r, .int .i64 x.h] 82)).cell? ⟨rb, 0, none⟩ = some (.slice a L.length c) := ga.cell r0 (by simp)
  have r2 : (w2.alloc (.cells #[.string x.n, .string x.o, .string x.r, .int .i64 x.h] 82)).drew.cell? ⟨rb, 0, none⟩ = some (.slice a L.length c) := r1
  have r3 : w2.drew.cell? ⟨rb, 0, none⟩ = some (.slice a L.length c) := r0
  clear ga hba hbs hl1 hl2
  go_wp2_with fail
  go_region_law (refine step_append_lies _ rfl (.tmp 24) (.tmp 26) 123 rfl n0 82 i0 (.agg #[.string ⟨#[]⟩, .string ⟨#[]⟩, .string ⟨#[]⟩, .int .i64 0]) 4 56 Tryd.underlying123 hti hz0 hz1 hz2 rfl (by decide) (.slice a L.length c) L.length (audsV L) rfl HRA.out.o ⟨w2.heap.size, 0, none⟩ 1 1 [.string x.n, .string x.o, .string x.r, .int .i64 x.h] rfl rfl (World.news_of_block HBA.out) (audsV_onecell [x]) Nat.zero_lt_one HL2.out.1 HL2.out.2 HBS.out _ rfl ?_; intro g8 c8 w8 ho8 hg8 hor hlt8; have hrb8 := hg8.heap HRA.out.h HRA.out.ne; have r8 := cell_of hrb8 0; have rf8 := free_of hrb8 0)
  all_goals
    have hg9 : w8.grownBy (w8.setCell ⟨rb, 0, none⟩ (.slice (some ⟨g8, 0, none⟩) (L.length + 1 : Nat) c8)) (some rb) := grownBy_setCell (World.grownBy.refl w8 _) 0 _
    have hgr : g8 ≠ rb := by
      rcases hor with q | q
      · exact fun e => HRA.out.ne (q.trans (congrArg some e))
      · have := HRA.out.lt
        omega
    have hh9 : (w8.setCell ⟨rb, 0, none⟩ (.slice (some ⟨g8, 0, none⟩) (L.length + 1 : Nat) c8)).heap[rb]? = some (.cells #[.slice (some ⟨g8, 0, none⟩) (L.length + 1 : Nat) c8] 125 (0, 0)) := (heap_setCell hrb8 0 _).trans rfl
    have HR9 : Hid (RosAt n0 rb (L ++ [x]) (.slice (some ⟨g8, 0, none⟩) (L.length + 1 : Nat) c8) (w8.setCell ⟨rb, 0, none⟩ (.slice (some ⟨g8, 0, none⟩) (L.length + 1 : Nat) c8))) := Lib.hid ⟨hh9, by
      rw [List.length_append, List.length_singleton, audsV_append, audsV_one]
      exact own_keepR ho8 hg9 (fun y q e => hgr (by have h1 : g8 = y := by simpa [Value.ownBlock] using q
                                                    rw [h1]; exact (Option.some.inj e).symm)), fun q => hgr (by simpa [Value.ownBlock] using q), HRA.out.l⟩
    have HLN := Lib.hid (rlen_any rb (some ⟨g8, 0, none⟩) (L.length + 1) c8 _ hh9)
    have HFIN : Hid (w.grownBy w8 (Value.slice a L.length c).ownBlock ∧ w8.grownBy (w8.setCell ⟨rb, 0, none⟩ (.slice (some ⟨g8, 0, none⟩) (L.length + 1 : Nat) c8)) (some rb) ∧ ((Value.slice (some ⟨g8, 0, none⟩) (L.length + 1 : Nat) c8).ownBlock = (Value.slice a L.length c).ownBlock ∨ ∀ y, (Value.slice (some ⟨g8, 0, none⟩) (L.length + 1 : Nat) c8).ownBlock = some y → w.heap.size ≤ y)) := Lib.hid ⟨grownBy_trans (grownBy_any (grownBy_drew HGA.out) _) hg8, hg9, by
      rcases hor with q | q
      · exact Or.inl q.symm
      · refine Or.inr (fun y e => ?_)
        have h1 : g8 = y := by simpa [Value.ownBlock] using e
        have h2 := (grownBy_drew HGA.out).size
        omega⟩
    have hl9 : ((L.length + 1 : Nat) : Int) - 1 = (L.length : Int) := by omega
    obtain ⟨N1, hN1⟩ : ∃ N1, L.length + 1 = N1 := ⟨_, rfl⟩
    rw [hN1] at HLN hl9 HR9 HFIN
    have HN1 := Lib.hid hN1
    clear hh9 hg9 hgr r8 rf8 hrb8 hg8 ho8 hor hlt8 r0 r1 r2 r3 y0 y1 y2 y3 hrf
    go_wp2_with (rw [HN1.out])
    refine HLN.out.mono ?_
    rintro e w9 ⟨rfl, hw9⟩
    subst hw9
    go_wp2_with fail
    go_returns
    exact ⟨rfl, _, _, HR9.out, HFIN.out.1, HFIN.out.2.1, HFIN.out.2.2⟩
end Go.Proofs.YtioahjdojgcfdaaDoor

namespace Go.Proofs.YtioahjdojgcfdaaDoor
open Go.RowKit
attribute [local irreducible] shaL

theorem results_rat {n : Nat} {v0 v1 v2 v3 : Value} {z : Int} {tmps : Array Value} {w : World} (h6 : tmps[4]? = some (.pointer (some ⟨n, 0, none⟩))) (h7 : tmps[5]? = some (.int .i64 z)) (hb : w.heap[n]? = some (.cells #[v0, v1, v2, v3] 82 (0, 0))) :
    (results Tryd.f34 tmps).run Tryd.prog w = .ok (.tuple #[.agg #[v0, v1, v2, v3], .int .i64 z]) w := by
  obtain ⟨c0, c1, c2, c3⟩ := cells4 hb
  simp [results, Tryd.results34, go_sem, h6, h7, c0, c1, c2, c3]
theorem heap4 {w : World} {n : Nat} {t : TypeId} {u0 u1 u2 u3 : Value} (h : w.heap[n]? = some (.cells #[u0, u1, u2, u3] t (0, 0))) (v0 v1 v2 v3 : Value) :
    ((((w.setCell ⟨n, 0, none⟩ v0).setCell ⟨n, 1, none⟩ v1).setCell ⟨n, 2, none⟩ v2).setCell ⟨n, 3, none⟩ v3).heap[n]? = some (.cells #[v0, v1, v2, v3] t (0, 0)) :=
  (heap_setCell (heap_setCell (heap_setCell (heap_setCell h 0 v0) 1 v1) 2 v2) 3 v3).trans rfl
theorem grown4 (w : World) (n : Nat) (v0 v1 v2 v3 : Value) : w.grownBy ((((w.setCell ⟨n, 0, none⟩ v0).setCell ⟨n, 1, none⟩ v1).setCell ⟨n, 2, none⟩ v2).setCell ⟨n, 3, none⟩ v3) (some n) :=
  grownBy_setCell (grownBy_setCell (grownBy_setCell (grownBy_setCell (World.grownBy.refl w _) 0 _) 1 _) 2 _) 3 _
def audZ : Value := .agg #[.string ⟨#[]⟩, .string ⟨#[]⟩, .string ⟨#[]⟩, .int .i64 0]
set_option maxRecDepth 100000 in
set_option maxHeartbeats 1600000 in
theorem rat_any (n0 rb : Nat) (L : List AudS) (v : Value) (k : Int) (w : World) (hL : L.length ≤ 100) (hR : RosAt n0 rb L v w) :
    Calls Tryd.prog 34 #[.pointer (some ⟨rb, 0, none⟩), .int .i64 k] w fun e w' => ((k < 0 ∨ (L.length : Int) ≤ k) → e = .returned (.tuple #[audZ, .int .i64 20])) ∧ (∀ i : Nat, (i : Int) = k → (hi : i < L.length) → e = .returned (.tuple #[(L[i]'hi).val, .int .i64 0])) ∧ w.grownBy w' none := by
  obtain ⟨a, c, rfl⟩ := hR.form
  obtain ⟨m, hm⟩ : ∃ m, w.heap.size = m := ⟨_, rfl⟩
  have hb0 := heap_alloc_at w (.cells #[.string ⟨#[]⟩, .string ⟨#[]⟩, .string ⟨#[]⟩, .int .i64 0] 82) m hm
  have hg0 := World.grownBy_alloc w (.cells #[.string ⟨#[]⟩, .string ⟨#[]⟩, .string ⟨#[]⟩, .int .i64 0] 82) none
  obtain ⟨W0, hW0⟩ : ∃ W0, w.alloc (.cells #[.string ⟨#[]⟩, .string ⟨#[]⟩, .string ⟨#[]⟩, .int .i64 0] 82) = W0 := ⟨_, rfl⟩
  rw [hW0] at hb0 hg0
  have hR0 := hR.go hg0
  have HLE := Lib.hid (rlen_any rb a L.length c W0 hR0.h)
  have HB := Lib.hid (And.intro hb0 (And.intro hg0 hR0))
  have HW := Lib.hid (And.intro hW0 hm)
  obtain ⟨u0, u1, u2, u3⟩ := cells4 hb0
  have uf := fun j => free_of hb0 j
  have hfin : ∀ v0 v1 v2 v3, w.grownBy ((((W0.setCell ⟨m, 0, none⟩ v0).setCell ⟨m, 1, none⟩ v1).setCell ⟨m, 2, none⟩ v2).setCell ⟨m, 3, none⟩ v3) none := fun v0 v1 v2 v3 => grown_row hg0 (grown4 W0 m v0 v1 v2 v3) (fun y e => by cases e; omega)
  have HFIN := Lib.hid hfin
  clear hb0 hg0 hW0 hm hR hR0 hfin
  by_cases h1 : k < 0
  · clear HLE
    go_enter Tryd.func34, Tryd.ntmps34
    go_wp2_with (rw [HW.out.1, HW.out.2])
    refine bodyPost_ret (results_rat (n := m) (v0 := .string ⟨#[]⟩) (v1 := .string ⟨#[]⟩) (v2 := .string ⟨#[]⟩) (v3 := .int .i64 0) rfl rfl (heap4 HB.out.1 _ _ _ _)) rfl ?_
    exact ⟨fun _ => rfl, fun i hi _ => by omega, HFIN.out _ _ _ _⟩
  · by_cases h2 : (L.length : Int) ≤ k
    · go_enter Tryd.func34, Tryd.ntmps34
      go_wp2_with (rw [HW.out.1, HW.out.2])
      refine HLE.out.mono ?_
      rintro e w1 ⟨rfl, rfl⟩
      go_wp2_with fail
      refine bodyPost_ret (results_rat (n := m) (v0 := .string ⟨#[]⟩) (v1 := .string ⟨#[]⟩) (v2 := .string ⟨#[]⟩) (v3 := .int .i64 0) rfl rfl (heap4 HB.out.1 _ _ _ _)) rfl ?_
      exact ⟨fun _ => rfl, fun i hi hlt => by omega, HFIN.out _ _ _ _⟩
    · obtain ⟨i, hi⟩ := Int.eq_ofNat_of_zero_le (show 0 ≤ k by omega)
      have hi : k = (i : Int) := hi
      subst hi
      have hil : i < L.length := by omega
      obtain ⟨x, hx⟩ : ∃ x, L[i]? = some x := ⟨_, List.getElem?_eq_getElem hil⟩
      obtain ⟨g, o, ha, c0, c1, c2, c3⟩ := (auds_own HB.out.2.2.o).at_ i x hx
      subst ha
      have r0 : W0.cell? ⟨rb, 0, none⟩ = some (.slice (some ⟨g, o, none⟩) L.length c) := by rw [cell_of HB.out.2.2.h]; rfl
      have b2 : (i : Int) < (L.length : Int) := by omega
      have HX := Lib.hid hx
      clear hx
      go_enter Tryd.func34, Tryd.ntmps34
      go_wp2_with (rw [HW.out.1, HW.out.2])
      refine HLE.out.mono ?_
      rintro e w1 ⟨rfl, rfl⟩
      go_wp2_with fail
      refine bodyPost_ret (results_rat (n := m) (v0 := .string x.n) (v1 := .string x.o) (v2 := .string x.r) (v3 := .int .i64 x.h) rfl rfl (heap4 HB.out.1 _ _ _ _)) rfl ?_
      refine ⟨fun q => by omega, fun j hj hlt => ?_, HFIN.out _ _ _ _⟩
      obtain rfl : j = i := by omega
      have := HX.out
      rw [List.getElem?_eq_getElem hlt] at this
      rw [Option.some.inj this]
      rfl
end Go.Proofs.YtioahjdojgcfdaaDoor

namespace Go.Proofs.YtioahjdojgcfdaaDoor
open Go.RowKit

/-- the bit of a row of bytes -/
def bitL (l : List UInt8) (i : Nat) : Nat := ((l[i / 8]?).getD 0).toNat / 2 ^ (7 - i % 8) % 2
theorem bitS_str (l : List UInt8) (i : Nat) : bitS (str l) i = bitL l i := rfl
theorem bit_test (x j : Nat) : x / 2 ^ j % 2 = (x.testBit j).toNat := (Nat.toNat_testBit x j).symm
theorem bitL_set (l : List UInt8) (q r c b : Nat) (hq : q < l.length) (hr : r < 8) (hc : ((l[q]?).getD 0).toNat = c) (hb : b ≤ 1) (h0 : bitL l (8 * q + r) = 0) (i : Nat) :
    bitL (l.set q (UInt8.ofNat (c ||| b * 2 ^ (7 - r)))) i = if i = 8 * q + r then b else bitL l i := by
  have hp : 2 ^ (7 - r) ≤ 128 := Nat.le_trans (Nat.pow_le_pow_right (by decide) (by omega : 7 - r ≤ 7)) (by decide)
  have hbp : b * 2 ^ (7 - r) < 256 := by
    have : b * 2 ^ (7 - r) ≤ 1 * 2 ^ (7 - r) := Nat.mul_le_mul_right _ hb
    omega
  have hc8 : c < 256 := by rw [← hc]; exact UInt8.toNat_lt _
  have hor : c ||| b * 2 ^ (7 - r) < 256 := Nat.or_lt_two_pow (n := 8) hc8 hbp
  unfold bitL at h0 ⊢
  rw [show (8 * q + r) / 8 = q from by omega, show (8 * q + r) % 8 = r from by omega, hc, bit_test] at h0
  by_cases hiq : i / 8 = q
  · rw [hiq, List.getElem?_set_self hq, Option.getD_some, UInt8.toNat_ofNat_of_lt' hor, hc, bit_test, bit_test, Nat.testBit_or]
    have hbt : (b * 2 ^ (7 - r)).testBit (7 - i % 8) = (decide (7 - r = 7 - i % 8) && decide (b = 1)) := by
      rcases (by omega : b = 0 ∨ b = 1) with rfl | rfl
      · simp
      · rw [Nat.one_mul, Nat.testBit_two_pow]; simp
    rw [hbt]
    by_cases hir : i % 8 = r
    · rw [if_pos (by omega), hir]
      have : c.testBit (7 - r) = false := by
        cases h : c.testBit (7 - r) with
        | false => rfl
        | true => rw [h] at h0; simp at h0
      rw [this]
      rcases (by omega : b = 0 ∨ b = 1) with rfl | rfl <;> simp
    · rw [if_neg (by omega)]
      have : decide (7 - r = 7 - i % 8) = false := by simp; omega
      rw [this]
      simp
  · rw [List.getElem?_set_ne (fun e => hiq e.symm), if_neg (by omega)]

theorem bytesV_set (l : List UInt8) (q : Nat) (u : UInt8) : (bytesV l).toArray.setIfInBounds q (.int .u8 u.toNat) = (bytesV (l.set q u)).toArray := by
  apply Array.toList_inj.1
  simp [bytesV, List.map_set]

def noughts16 : ByteArray := str (List.replicate 16 0)
end Go.Proofs.YtioahjdojgcfdaaDoor
