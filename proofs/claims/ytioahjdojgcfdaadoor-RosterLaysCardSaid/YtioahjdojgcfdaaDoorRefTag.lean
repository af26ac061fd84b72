/- The walk of the document's tagged digest. -/
import Derived.Test.YtioahjdojgcfdaaDoorRosterLaysB2
import Derived.Test.YtioahjdojgcfdaaDoorShaRefE
import Derived.Test.YtioahjdojgcfdaaDoorRosterLaysB8
import Derived.Deep.QuietTactic
import Derived.BigQuiet
import Derived.IntWalk
namespace Go.Proofs.YtioahjdojgcfdaaDoor
open Go.RowKit
attribute [local irreducible] shaL

theorem StrsAt.at' {w : World} {a : Option Addr} {n cap : Nat} {L : List ByteArray} (h : StrsAt w (.slice a n cap) L) (i : Nat) (x : ByteArray) (hx : L[i]? = some x) : ∃ g o, a = some ⟨g, o, none⟩ ∧ w.cell? ⟨g, o + i, none⟩ = some (.string x) := by
  obtain ⟨a', cap', he, hc⟩ := h
  cases he
  obtain ⟨hi, rfl⟩ := List.getElem?_eq_some_iff.1 hx
  exact hc i hi

set_option maxRecDepth 100000 in
set_option maxHeartbeats 1600000 in
theorem refTagged_any (w : World) (tag : UInt8) (v : Value) (L : List ByteArray) (hv : StrsAt w v L) (hn : L.length ≤ 10) (hs : ∀ s ∈ L, s.size ≤ 1000) :
    Calls Tryd.prog 49 #[.int .u8 tag.toNat, v] w fun e w' => e = .returned (.string (tagS tag L)) ∧ w.grownBy w' none := by
  obtain ⟨a, cap, rfl⟩ := (show ∃ a cap, v = .slice a L.length cap from let ⟨a, cap, h, _⟩ := hv; ⟨a, cap, h⟩)
  have HV := Lib.hid hv
  have HS := Lib.hid hs
  clear hv hs
  have hcv : (convert 57 9 (.slice (some ⟨w.heap.size, 0, none⟩) 1 1)).run Tryd.prog (w.alloc (.cells #[.int .u8 tag.toNat] 5)) = .ok (.string (str [tag])) (w.alloc (.cells #[.int .u8 tag.toNat] 5)) := row_string_w w [Value.int .u8 tag.toNat] [tag] rfl
  go_enter Tryd.func49, Tryd.ntmps49
  go_wp2_with fail
  clear hcv
  have hG : w.grownBy (w.alloc (.cells #[.int .u8 tag.toNat] 5)) none := World.grownBy_alloc _ _ _
  generalize w.alloc (.cells #[.int .u8 tag.toNat] 5) = w1 at hG ⊢
  have G1 := Lib.hid hG
  clear hG
  go_wp2_with fail
  go_loopw [5, 6] (fun tv iv wr => ∃ k : Nat, ∃ tB : ByteArray, k ≤ L.length ∧ iv = .int .i64 k ∧ tv = .string tB ∧ Hid (tB.data.toList = tagB tag (L.take k)) ∧ tB.size ≤ 1004 * k + 1 ∧ Hid (w.grownBy wr none)) (fun _ iv _ => L.length - (intOf iv).toNat)
  case atStart => exact ⟨0, str [tag], Nat.zero_le _, rfl, rfl, rfl, by rw [str_size]; simp, G1.out⟩
  case round =>
    clear G1
    obtain ⟨k, tB, hk, rfl, rfl, HT, htb, HG⟩ := hrel
    by_cases hlt : k < L.length
    · obtain ⟨x, hx⟩ : ∃ x, L[k]? = some x := ⟨_, List.getElem?_eq_getElem hlt⟩
      have hxs := HS.out x (List.mem_of_getElem? hx)
      obtain ⟨g, o, rfl, hcell⟩ := HV.out.at' k x hx
      have hc : wr.cell? ⟨g, o + k, none⟩ = some (.string x) := HG.out.cell hcell (by simp)
      have hsn := tagB_take tag L k hlt
      rw [show L[k] = x from (List.getElem?_eq_some_iff.1 hx).2] at hsn
      have HX := Lib.hid hsn
      clear hx hsn hcell
      have hb4 : (str (be x.size 4)).size = 4 := by rw [str_size, be_length]
      have hF : Hid (∀ w0 : World, Calls Tryd.prog 51 #[.int .i64 x.size] w0 fun e w' => e = .returned (.string (str (be x.size 4))) ∧ w0.grownBy w' none) := four_any x.size (by omega)
      have HZ : Hid (tagB tag (L.take (k + 1)) = tB.data.toList ++ (str (be x.size 4)).data.toList ++ x.data.toList) := by
        show _ = _
        rw [HX.out, HT.out]
        rfl
      generalize str (be x.size 4) = z at hb4 hF HZ
      have hzy : (z ++ x).size = 4 + x.size := by rw [ByteArray.size_append, hb4]
      have q2 : (9223372036854775807 < z.size + x.size) = False := eq_false (by omega)
      have q3 : (9223372036854775807 < tB.size + (z ++ x).size) = False := eq_false (by omega)
      have q4 : (9223372036854775807 < tB.size + (z.size + x.size)) = False := eq_false (by omega)
      have b1 : (0 : Int) ≤ (k : Int) := by omega
      have b2 : (k : Int) < (L.length : Int) := by omega
      go_wp2_with fail
      go_region_with ((go_at_call 51; refine (hF.out _).mono ?_; rintro e w4 ⟨rfl, g4⟩; have c4 := g4.cell hc (by simp)))
      all_goals
        have HGf : Hid (w.grownBy w4 none) := grownBy_trans HG.out ⟨g4.os, g4.tape, g4.output, g4.size, g4.block⟩
        clear g4 HG
        go_wp2_with fail
        go_roundw
        case rel =>
          refine ⟨k + 1, _, by omega, by go_num, rfl, ?_, ?_, ?_⟩
          · show _ = _
            rw [HZ.out]
            simp
          · rw [ByteArray.size_append]; omega
          · exact HGf.out
        case measure => simp [intOf]; omega
    · have : k = L.length := by omega
      subst this
      have ht := HT.out
      rw [List.take_of_length_le (Nat.le_refl _)] at ht
      have hsum := refSum_any
      have HQ := Lib.hid hsum
      clear hsum HT
      have hsh : str (shaL tB.data.toList) = str (shaL (tagB tag L)) := by rw [ht]
      have hsz : (str (shaL (tagB tag L))).size = 32 := by rw [str_size, shaL_length]
      have hx : (str (shaL (tagB tag L))).extract 0 16 = tagS tag L := by
        apply ByteArray.ext
        simp [str, tagS]
      have htb2 : tB.size ≤ 1000000 := by omega
      generalize str (shaL (tagB tag L)) = S at hsh hsz hx
      have HSH := Lib.hid (And.intro ht (And.intro hsh hx))
      clear ht hsh hx
      go_wp2_with fail
      refine (HQ.out _ tB htb2).mono ?_
      rintro e w2 ⟨rfl, g2⟩
      have G2 := Lib.hid (grownBy_trans HG.out g2)
      rw [HSH.out.2.1]
      clear g2
      go_wp2_with fail
      go_ret
      exact ⟨by rw [← HSH.out.2.2]; rfl, G2.out⟩

theorem refTagged_new (w : World) (b : Nat) (hb : w.heap.size = b) (tag : UInt8) (L : List ByteArray) (vs : List Value) (n : Nat) (tg : Int) (hv : vs = L.map Value.string) (hn : n = L.length) (ht : (tag.toNat : Int) = tg) (hN : L.length ≤ 10) (hs : ∀ s ∈ L, s.size ≤ 1000) :
    Calls Tryd.prog 49 #[.int .u8 tg, .slice (some ⟨b, 0, none⟩) n n] (w.alloc (.cells vs.toArray 9)) fun e w' => e = .returned (.string (tagS tag L)) ∧ w.grownBy w' none := by
  subst hv
  subst ht
  subst hb
  exact (refTagged_any _ tag _ L (strs_new w L 9 n hn) hN hs).mono fun e w' h => ⟨h.1, grownBy_trans (World.grownBy_alloc _ _ _) h.2⟩
end Go.Proofs.YtioahjdojgcfdaaDoor
