/- The walk of item.List. -/
import Derived.Test.YtemgeelgkokpcaaDoorItmA
namespace Go.Proofs.YtemgeelgkokpcaaDoor
open Go.RowKit

theorem depTs_take (l : List Tr) (k : Nat) (t : Tr) (h : l[k]? = some t) : depTs (l.take (k + 1)) = max (depTs (l.take k)) (depT t) := by
  rw [List.take_add_one, h, Option.toList_some, depTs_append, depTs, depTs]
  omega
set_option maxRecDepth 100000 in
set_option maxHeartbeats 1600000 in
theorem ilist_any {P : Nat → Prop} (v : Value) (n : Nat) (vs : List Value) (l : List Tr) (w : World) (hv : w.ownsRow 0 24 1 v n vs) (hA : AllAt w P vs l) (hn : n ≤ 1000000) (hd : depTs l ≤ 1000000) :
    Calls Tryd.prog 20 #[v] w fun e w' => ∃ b, e = .returned (vList b) ∧ ItemAt w' (fun i => P i ∨ w.heap.size ≤ i) (vList b) (.list l) ∧ w.grownBy w' none := by
  have hvl : vs.length = n := by have := hv.1; omega
  have hll : l.length = n := by rw [← hA.1]; exact hvl
  have h1 : ∀ u ∈ vs, u.oneCell' = true := fun u hu => by
    obtain ⟨k, hk, rfl⟩ := List.getElem_of_mem hu
    exact item_one (hA.2 k _ _ (List.getElem?_eq_getElem hk) (List.getElem?_eq_getElem (by omega)))
  have HC := Lib.hid (clone_itm v n vs w hv h1 (by omega))
  have HA := Lib.hid hA
  have HLL := Lib.hid (And.intro hvl (And.intro hll hd))
  clear hv hA hvl hll hd h1
  go_enter Tryd.func20, Tryd.ntmps20
  go_wp2_with fail
  refine HC.out.mono ?_
  rintro e w1 ⟨v1, rfl, ho1, g1⟩
  obtain ⟨a1, c1, rfl⟩ : ∃ a1 c1, v1 = .slice a1 n c1 := by
    rcases own_formI ho1 with ⟨rfl, h0⟩ | ⟨g, cap, rfl⟩
    · exact ⟨none, 0, by rw [h0]⟩
    · exact ⟨_, _, rfl⟩
  have HO := Lib.hid ho1
  have HG := Lib.hid g1
  clear ho1 g1 HC
  go_wp2_with fail
  go_loopw [4, 5, 6, 11] (fun dv _ _ kv wr => ∃ k : Nat, k ≤ n ∧ kv = .int .i64 k ∧ Hid (dv = .int .i64 (depTs (l.take k))) ∧ w1 = wr) (fun _ _ _ kv _ => n - (intOf kv).toNat)
  case atStart => exact ⟨0, Nat.zero_le _, rfl, Lib.hid rfl, rfl⟩
  case round =>
    obtain ⟨k, hk, rfl, HD, rfl⟩ := hrel
    obtain ⟨D, hD⟩ : ∃ D, depTs (l.take k) = D := ⟨_, rfl⟩
    have hdv := HD.out
    rw [hD] at hdv
    subst hdv
    have HDD := Lib.hid hD
    have hD2 : D ≤ 1000000 := by
      have h2 := HLL.out.2.2
      rw [← hD]
      have : depTs (l.take k ++ l.drop k) = max (depTs (l.take k)) (depTs (l.drop k)) := depTs_append _ _
      rw [List.take_append_drop] at this
      omega
    clear hD HD
    by_cases hlt : k < n
    · have d1 : (k : Int) < (n : Int) := by omega
      have d0 : (0 : Int) ≤ (k : Int) := by omega
      have hkv : k < vs.length := by have := HLL.out.1; omega
      have hkl : k < l.length := by have := HLL.out.2.1; omega
      obtain ⟨u, hu⟩ : ∃ u, vs[k]? = some u := ⟨_, List.getElem?_eq_getElem hkv⟩
      obtain ⟨t, ht⟩ : ∃ t, l[k]? = some t := ⟨_, List.getElem?_eq_getElem hkl⟩
      obtain ⟨g, rfl⟩ : ∃ g, a1 = some ⟨g, 0, none⟩ := by
        rcases own_formI HO.out with ⟨_, h0⟩ | ⟨g, cap, e⟩
        · omega
        · injection e with e _ _; exact ⟨g, e⟩
      have c0 : w1.cell? ⟨g, k, none⟩ = some u := by rw [HO.out.cellAt k (by omega), hu]
      have hit := (HA.out.2 k u t hu ht).grown HG.out
      have HI := Lib.hid (isItem_any u t w1 hit)
      have HDO := Lib.hid (depthOf_any u t w1 hit)
      have hst := depTs_take l k t ht
      rw [HDD.out] at hst
      have HST := Lib.hid hst
      obtain ⟨E, hE⟩ : ∃ E, depT t = E := ⟨_, rfl⟩
      rw [hE] at HDO HST
      clear hst hE hit hu ht hkv hkl
      go_wp2_with fail
      refine HI.out.mono ?_
      rintro e w3 ⟨rfl, rfl⟩
      go_wp2_with fail
      refine HDO.out.mono ?_
      rintro e w3 ⟨rfl, rfl⟩
      go_wp2_with fail
      go_roundw
      case rel => exact ⟨k + 1, by omega, by go_num, Lib.hid (by rw [HST.out]; congr 1; split <;> omega), by first | rfl | trivial⟩
      case measure => simp [intOf] <;> omega
    · have hkn : k = n := by omega
      subst hkn
      have d1 : ¬ (k : Int) < (k : Int) := by omega
      have hfin : D = depTs l := by
        rw [← HDD.out, List.take_of_length_le (by have := HLL.out.2.1; omega)]
      obtain ⟨b, hb⟩ : ∃ b, w1.heap.size = b := ⟨_, rfl⟩
      have hg2 := World.grownBy_alloc w1 (.cells #[.slice a1 k c1, .int .i64 (D + 1 : Nat)] 97) none
      have hb2 := heap_alloc_at w1 (.cells #[.slice a1 k c1, .int .i64 (D + 1 : Nat)] 97) b hb
      obtain ⟨W2, hW2⟩ : ∃ W2, w1.alloc (.cells #[.slice a1 k c1, .int .i64 (D + 1 : Nat)] 97) = W2 := ⟨_, rfl⟩
      rw [hW2] at hg2 hb2
      have r1 : IntKind.i64.wrap ((D : Int) + 1) = ((D + 1 : Nat) : Int) := by rw [IntWalk.i64_in _ (by omega)]; rfl
      have HF : Hid (ItemAt W2 (fun i => P i ∨ w.heap.size ≤ i) (vList b) (.list l) ∧ w.grownBy W2 none) := Lib.hid (by
        refine ⟨?_, grownBy_trans HG.out hg2⟩
        rw [ItemAt]
        refine ⟨b, a1, c1, rfl, .inr (by have := HG.out.size; omega), by rw [HLL.out.2.1, ← hfin]; exact hb2, fun h0 => ?_⟩
        obtain ⟨g, rfl⟩ : ∃ g, a1 = some ⟨g, 0, none⟩ := by
          rcases own_formI HO.out with ⟨_, h0'⟩ | ⟨g, cap, e⟩
          · have := HLL.out.2.1; omega
          · injection e with e _ _; exact ⟨g, e⟩
        refine ⟨g, rfl, .inr (HO.out.lt g rfl).1, items_all (own_kept_I HO.out hg2) ?_⟩
        exact HA.out.keep (fun i o _ e => hg2.heap (HG.out.heap e (by simp)) (by simp)) (fun i p _ => .inl p))
      have HW := Lib.hid (And.intro hW2 hb)
      have hD3 : (D : Int) + 1 = ((D + 1 : Nat) : Int) := rfl
      obtain ⟨D1, hD1⟩ : ∃ D1, D + 1 = D1 := ⟨_, rfl⟩
      rw [hD1] at r1 HW
      clear hg2 hb2 hW2 hb hfin hD1 hD3 hD2
      go_wp2_with (first | rw [HW.out.1, HW.out.2] | rw [HW.out.1])
      go_ret
      exact ⟨b, rfl, HF.out.1, HF.out.2⟩
end Go.Proofs.YtemgeelgkokpcaaDoor
