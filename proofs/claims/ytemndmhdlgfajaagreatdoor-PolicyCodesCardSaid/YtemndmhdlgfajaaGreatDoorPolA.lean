/- The walks of xmss's write and read: texts of 16 bytes. -/
import Derived.Test.YtemndmhdlgfajaaGreatDoorPolicyCodesB2
import Derived.Test.YtemndmhdlgfajaaGreatDoorPolicyCodesB3
import Derived.Test.YtemndmhdlgfajaaGreatDoorPolicyCodesB4
import Derived.Deep.DeepCutAuto
namespace Go.Proofs.YtemndmhdlgfajaaGreatDoor
open Go.RowKit
attribute [local irreducible] shaL

theorem total_rev (L ts : List ByteArray) (h : ∀ t ∈ L, t.size = 16) : total (L.reverse ++ ts) = 16 * L.length + total ts := by
  rw [← flat_length, flat_rev, List.length_append, flat_length, catS_16 L h, Nat.add_comm]
theorem rev_snoc (L ts : List ByteArray) (t : ByteArray) : (L ++ [t]).reverse ++ ts = t :: (L.reverse ++ ts) := by
  rw [List.reverse_append]
  rfl
set_option maxRecDepth 100000 in
set_option maxHeartbeats 1600000 in
theorem xwrite_any (b : Nat) (ts L : List ByteArray) (a : Option Addr) (n c : Nat) (hn : L.length = n) (hn1 : n ≤ 1000) (h16 : ∀ t ∈ L, t.size = 16) (ht : total ts ≤ 100000000) (w : World) (hv : StrsAt w (.slice a n c) L) (hw : WrAt w b ⟨ts, 0⟩) (hne : ∀ g o, 0 < n → a = some ⟨g, o, none⟩ → g ≠ b) :
    Calls Tryz.prog 90 #[.pointer (some ⟨b, 0, none⟩), .slice a n c] w fun e w' => e = .returned (.tuple #[]) ∧ WrAt w' b ⟨L.reverse ++ ts, 0⟩ ∧ w.grownBy w' (some b) := by
  have HV := Lib.hid hv
  have HW := Lib.hid hw
  have HN := Lib.hid hn
  have H16 := Lib.hid h16
  have HT := Lib.hid ht
  have HNE := Lib.hid hne
  clear hv hw hn h16 ht hne
  go_enter Tryz.func90, Tryz.ntmps90
  go_wp2_with fail
  go_loopw [5, 8] (fun _ iv wr => ∃ i : Nat, i ≤ n ∧ iv = .int .i64 i ∧ Hid (WrAt wr b ⟨(L.take i).reverse ++ ts, 0⟩) ∧ Hid (w.grownBy wr (some b))) (fun _ iv _ => n - (intOf iv).toNat)
  case atStart => exact ⟨0, Nat.zero_le _, rfl, HW.out, Lib.hid (World.grownBy.refl _ _)⟩
  case round =>
    obtain ⟨i, hi, rfl, HI, HG⟩ := hrel
    by_cases hil : i < n
    · obtain ⟨s, hs⟩ : ∃ s, L[i]? = some s := ⟨_, List.getElem?_eq_getElem (by have := HN.out; omega)⟩
      obtain ⟨g1, o1, rfl, hc1⟩ := (HV.out.beside HG.out (fun g o e q => HNE.out g o (by omega) e (Option.some.inj q).symm)).at_ i s hs
      have e0 : (0 : Int) ≤ (i : Int) := by omega
      have e1 : (i : Int) < (n : Int) := by omega
      have h16 := H16.out s (List.mem_of_getElem? hs)
      have HTK := Lib.hid (take_at hs).1
      have hz := total_rev (L.take i) ts (fun x hx => H16.out x (List.mem_of_mem_take hx))
      have hz2 := List.length_take_le i L
      have hf := wr_fixedS (w := wr) (st := ⟨(L.take i).reverse ++ ts, 0⟩) s 16 HI.out (by show s.size + total ((L.take i).reverse ++ ts) ≤ _; have := HT.out; omega)
      rw [put16 _ s h16] at hf
      have HF := Lib.hid hf
      clear hs hf hz hz2 h16
      go_wp2_with fail
      refine HF.out.mono ?_
      rintro e w2 ⟨rfl, hw2, g2⟩
      have W2 := Lib.hid hw2
      have G2 := Lib.hid (World.grownBy.trans HG.out g2)
      clear hw2 g2 HG HI HF hc1
      go_wp2_with fail
      go_roundw
      case rel => exact ⟨i + 1, by omega, by go_num, Lib.hid (by rw [HTK.out, rev_snoc]; exact W2.out), G2⟩
      case measure => simp [intOf]; omega
    · have e1 : ¬ (i : Int) < (n : Int) := by omega
      have hin : L.take i = L := List.take_of_length_le (by have := HN.out; omega)
      rw [hin] at HI
      clear hin hil hi
      go_wp2_with fail
      go_returns
      exact ⟨rfl, HI.out, HG.out⟩

theorem grown_wide {a b : World} (h : a.grownBy b none) (row : Option Nat) : a.grownBy b row := ⟨h.os, h.tape, h.output, h.size, fun i hi _ => h.block i hi (by simp)⟩
theorem own_keepP {w w' : World} {B n : Nat} {t : TypeId} {v : Value} {xs : List Value} {row : Option Nat} (h : w.ownsRow B t 1 v n xs) (k : w.grownBy w' row) (hne : ∀ x, v.ownBlock = some x → row ≠ some x) : w'.ownsRow B t 1 v n xs := by
  refine ⟨h.1, ?_⟩
  rcases h.2 with h' | ⟨g, cap, cur, rfl, hB, hg, r⟩
  · exact .inl h'
  · exact .inr ⟨g, cap, cur, rfl, hB, (k.block g (Array.getElem?_eq_some_iff.1 hg).1 (fun e => hne g rfl e.symm)).trans hg, r⟩
theorem RdAt.set {w : World} {b : Nat} {s : ByteArray} {e : Int} (h : RdAt w b s e) {k : Nat} (hk : k ≠ b) (o : Nat) (u : Value) : RdAt (w.setCell ⟨k, o, none⟩ u) b s e := by
  unfold RdAt
  rw [heap_setCell_ne _ _ _ _ hk]
  exact h
set_option maxRecDepth 100000 in
set_option maxHeartbeats 1600000 in
theorem xread_any (b n : Nat) (s : RSt) (hn1 : n ≤ 1000) (hs : s.rest.size ≤ 1000000000) (w : World) (hw : RdAt w b s.rest s.err) :
    Calls Tryz.prog 98 #[.pointer (some ⟨b, 0, none⟩), .int .i64 n] w fun e w' => ∃ a c, e = .returned (.slice a n c) ∧ w'.ownsRow w.heap.size 9 1 (.slice a n c) n (strsV (reads n s).1) ∧ RdAt w' b (reads n s).2.rest (reads n s).2.err ∧ w.grownBy w' (some b) := by
  obtain ⟨i0, hi, hz0, hz1, hz2⟩ := info_parts infoStrW
  have HW := Lib.hid hw
  have HS := Lib.hid hs
  have HBL := Lib.hid hw.lt
  clear hw hs
  go_enter Tryz.func98, Tryz.ntmps98
  go_wp2_with (at_make; refine wpList_make_full _ rfl _ _ 35 rfl w.heap.size 9 i0 (.string ⟨#[]⟩) 1 Tryz.underlying35 hi hz0 hz1 _ _ _ _ n rfl rfl rfl rfl ?c1 ?c2 ?c3 ?_)
  case c1 => rw [hz2]; omega
  case c2 => unfold maxLen; omega
  case c3 => exact Nat.le_refl _
  intro w2 hown hg
  have hm2 : (madeCells #[Value.string ⟨#[]⟩] n).toList = strsV (fillS (reads 0 s).1 n) := made_strs n
  rw [hm2] at hown
  have HO2 := Lib.hid hown
  have HR2 := Lib.hid (HW.out.kept hg (by simp))
  have G2 := Lib.hid hg
  clear hown hg hm2
  go_wp2_with fail
  go_loopw [6, 11] (fun _ iv wr => ∃ k : Nat, k ≤ n ∧ iv = .int .i64 k ∧ Hid (wr.ownsRow w.heap.size 9 1 (.slice (some ⟨w.heap.size, 0, none⟩) n n) n (strsV (fillS (reads k s).1 n))) ∧ Hid (RdAt wr b (reads k s).2.rest (reads k s).2.err) ∧ Hid (w.grownBy wr (some b))) (fun _ iv _ => n - (intOf iv).toNat)
  case atStart => exact ⟨0, by omega, rfl, HO2.out, HR2.out, Lib.hid (grown_wide G2.out _)⟩
  case round =>
    clear HO2 G2 HR2
    obtain ⟨k, hk, rfl, HK, HR, HG⟩ := hrel
    by_cases hlt : k < n
    · have hpb := Lib.hid (rd_fixedS (w := wr) (s := (reads k s).2) 16 HR.out (by have := reads_rest s k; have := HS.out; unfold maxLen; omega))
      have hel := reads_len s k
      have hat := fillS_at (reads k s).1 n (by omega)
      have hput := fillS_put (reads k s).1 n ((reads k s).2.fixed 16).1 (by omega)
      rw [hel] at hat hput
      have HP : Hid ((strsV (fillS (reads k s).1 n)).set k (.string ((reads k s).2.fixed 16).1) = strsV (fillS (reads (k + 1) s).1 n)) := Lib.hid hput
      have HQ : Hid (((reads k s).2.fixed 16).2 = (reads (k + 1) s).2) := Lib.hid rfl
      have HAT := Lib.hid hat
      clear hat hput hel
      generalize ((reads k s).2.fixed 16).1 = S at hpb HP
      generalize ((reads k s).2.fixed 16).2 = Q at hpb HQ
      have c1 : (0 : Int) ≤ (k : Int) := by omega
      have c2 : (k : Int) < (n : Int) := by omega
      go_wp2_with fail
      refine hpb.out.mono ?_
      rintro e w4 ⟨rfl, hr4, g4⟩
      have G4 := Lib.hid (World.grownBy.trans HG.out g4)
      have HR4 := Lib.hid hr4
      have HK4 := Lib.hid (own_keepP HK.out g4 (fun x hx e => by have e1 := Option.some.inj e; have e2 : w.heap.size = x := Option.some.inj hx; have := HBL.out; omega))
      clear g4 HK hpb HG HR hr4
      have hc := (HK4.out.cellAt k (by omega)).trans HAT.out
      have hf := HK4.out.frozenAt k
      go_wp2_with fail
      go_roundw
      case rel =>
        refine ⟨k + 1, by omega, by go_num, ?_, ?_, grownBy_setNew G4.out (Nat.le_refl _) _ _⟩
        · show World.ownsRow _ _ _ _ _ _ _
          rw [← HP.out]
          exact (HK4.out.stored _ _).1
        · show RdAt _ _ _ _
          rw [← HQ.out]
          exact HR4.out.set (by have := HBL.out; omega) _ _
      case measure => simp [intOf]; omega
    · obtain rfl : k = n := by omega
      have hown := HK.out
      rw [fillS_full _ _ (reads_len s k)] at hown
      have HO := Lib.hid hown
      clear hown HK hlt hk
      go_wp2_with fail
      go_returns
      exact ⟨_, _, rfl, HO.out, HR.out, HG.out⟩
end Go.Proofs.YtemndmhdlgfajaaGreatDoor
