/- The walk of IndexFunc, at the closures that are handed to it. -/
import Derived.Test.YtheabbknflmnfaaDoorSmtC
import Derived.Test.YtheabbknflmnfaaDoorBelow
namespace Go.Proofs.YtheabbknflmnfaaDoor
open Go.RowKit Go.Maps
attribute [local irreducible] shaL

/-- the first one that is meant, or -1 -/
def firstI (L : List ByteArray) (P : ByteArray → Bool) : Int := match L.findIdx? P with
  | some i => i
  | none => -1
theorem firstI_at (L : List ByteArray) (P : ByteArray → Bool) (k : Nat) (hk : k < L.length) (hp : P L[k] = true) (hn : ∀ j, (h : j < L.length) → j < k → P L[j] = false) : firstI L P = k := by
  have : L.findIdx? P = some k := by
    rw [List.findIdx?_eq_some_iff_getElem]
    exact ⟨hk, hp, fun j hj => by simp [hn j (by omega) hj]⟩
  unfold firstI
  rw [this]
theorem firstI_none (L : List ByteArray) (P : ByteArray → Bool) (hn : ∀ j, (h : j < L.length) → P L[j] = false) : firstI L P = -1 := by
  have : L.findIdx? P = none := by
    rw [List.findIdx?_eq_none_iff]
    intro x hx
    obtain ⟨j, hj, rfl⟩ := List.getElem_of_mem hx
    exact hn j hj
  unfold firstI
  rw [this]
set_option maxRecDepth 100000 in
set_option maxHeartbeats 1600000 in
theorem index_bit (P : ByteArray → Bool) (a : Option Addr) (n c : Nat) (L : List ByteArray) (w : World) (c1 : Value) (hv : StrsAt w (.slice a n c) L) (hn : n ≤ 1000000)
    (hF : ∀ (k : ByteArray) (w' : World), k ∈ L → w.grownBy w' none → Calls Tryd.prog 75 #[.string k, c1] w' fun e w'' => e = .returned (.bool (P k)) ∧ w'.grownBy w'' none) :
    Calls Tryd.prog 67 #[.slice a n c, .func (Fn.func 75) #[] #[c1]] w fun e w' => e = .returned (.int .i64 (firstI L P)) ∧ w.grownBy w' none := by
  have hln : L.length = n := by obtain ⟨_, _, e, _⟩ := hv; injection e with _ e _; exact e.symm
  have HV := Lib.hid hv
  have HF := Lib.hid hF
  have HLN := Lib.hid hln
  clear hv hF hln
  go_enter Tryd.func67, Tryd.ntmps67
  go_wp2_with fail
  go_loopw [5, 8] (fun _ iv wr => ∃ k : Nat, k ≤ n ∧ iv = .int .i64 k ∧ Hid (∀ j, (h : j < L.length) → j < k → P L[j] = false) ∧ Hid (w.grownBy wr none)) (fun _ iv _ => n - (intOf iv).toNat)
  case atStart => exact ⟨0, Nat.zero_le _, rfl, Lib.hid (fun j _ h => absurd h (Nat.not_lt_zero j)), World.grownBy.refl _ _⟩
  case round =>
    obtain ⟨k, hk, rfl, HK, HG⟩ := hrel
    by_cases hlt : k < n
    · have d1 : (k : Int) < (n : Int) := by omega
      have d0 : (0 : Int) ≤ (k : Int) := by omega
      have hkl : k < L.length := by have := HLN.out; omega
      obtain ⟨x, hx⟩ : ∃ x, L[k]? = some x := ⟨_, List.getElem?_eq_getElem hkl⟩
      have hxe : L[k] = x := (List.getElem?_eq_some_iff.1 hx).2
      obtain ⟨g, o, rfl, hcell⟩ := HV.out.at_ k x hx
      have hc : wr.cell? ⟨g, o + k, none⟩ = some (.string x) := HG.out.cell hcell (by simp)
      have hfx := HF.out x wr (List.mem_of_getElem? hx) HG.out
      have HX := Lib.hid hxe
      clear hx hxe hcell
      cases hP : P x
      · rw [hP] at hfx
        have HFX := Lib.hid hfx
        have HPX := Lib.hid hP
        clear hfx hP
        go_wp2_with fail
        refine HFX.out.mono ?_
        rintro e w3 ⟨rfl, g3⟩
        have HG3 := Lib.hid (grownBy_trans HG.out g3)
        clear g3
        go_wp2_with fail
        go_roundw
        case rel =>
          refine ⟨k + 1, by omega, by go_num, Lib.hid (fun j h hj => ?_), HG3.out⟩
          by_cases hjk : j = k
          · subst hjk; rw [HX.out]; exact HPX.out
          · exact HK.out j h (by omega)
        case measure => simp [intOf]; omega
      · rw [hP] at hfx
        have HFX := Lib.hid hfx
        have HPX := Lib.hid hP
        clear hfx hP
        go_wp2_with fail
        refine HFX.out.mono ?_
        rintro e w3 ⟨rfl, g3⟩
        have HG3 := Lib.hid (grownBy_trans HG.out g3)
        clear g3
        go_wp2_with fail
        go_ret
        exact ⟨by rw [firstI_at L P k hkl (by rw [HX.out]; exact HPX.out) HK.out]; rfl, HG3.out⟩
    · have hkn : k = n := by omega
      subst hkn
      have d1 : ¬ (k : Int) < (k : Int) := by omega
      go_wp2_with fail
      go_ret
      exact ⟨by rw [firstI_none L P (fun j h => HK.out j h (by have := HLN.out; omega))]; rfl, HG.out⟩
end Go.Proofs.YtheabbknflmnfaaDoor
