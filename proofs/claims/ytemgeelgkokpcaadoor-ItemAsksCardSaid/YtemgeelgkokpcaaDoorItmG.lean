/- The walks of item's AsNum, AsText, Len, At, Path. -/
import Derived.Test.YtemgeelgkokpcaaDoorItmK
namespace Go.Proofs.YtemgeelgkokpcaaDoor
open Go.RowKit

def numV : Tr → Int | .num n => n | _ => 0
def isN : Tr → Bool | .num _ => true | _ => false
def txtV : Tr → ByteArray | .text s => s | _ => ⟨#[]⟩
def isX : Tr → Bool | .text _ => true | _ => false
def lenV : Tr → Nat | .list l => l.length | _ => 0
def isL : Tr → Bool | .list _ => true | _ => false
def stepE (t : Tr) (i : Int) : Int := if isL t = false then 6 else if i < 0 ∨ (lenV t : Int) ≤ i then 10 else 0
def kidsT : Tr → List Tr | .list l => l | _ => []
def stepT (t : Tr) (i : Int) : Tr := (kidsT t).getD i.toNat (.num 0)
def pathE : Tr → List Int → Int
  | _, [] => 0
  | t, i :: r => if stepE t i = 0 then pathE (stepT t i) r else stepE t i
def pathT : Tr → List Int → Tr
  | t, [] => t
  | t, i :: r => pathT (stepT t i) r
set_option maxRecDepth 100000 in
set_option maxHeartbeats 800000 in
theorem numberOf_any {P : Nat → Prop} (v : Value) (t : Tr) (w : World) (h : ItemAt w P v t) : Calls Tryd.prog 33 #[v] w fun e w' => e = .returned (.tuple #[.int .i64 (numV t), .bool (isN t)]) ∧ w = w' := by
  cases t with
  | num n =>
    rw [ItemAt] at h; subst h; unfold vNum numV isN
    go_enter Tryd.func33, Tryd.ntmps33
    go_wp2_with fail
    go_returns
    exact ⟨rfl, rfl⟩
  | text s =>
    rw [ItemAt] at h; subst h; unfold vText numV isN
    go_enter Tryd.func33, Tryd.ntmps33
    go_wp2_with fail
    go_returns
    exact ⟨rfl, rfl⟩
  | list l =>
    rw [ItemAt] at h; obtain ⟨b, a, c, h1, _, _⟩ := h; subst h1; unfold vList numV isN
    go_enter Tryd.func33, Tryd.ntmps33
    go_wp2_with fail
    go_returns
    exact ⟨rfl, rfl⟩
set_option maxRecDepth 100000 in
set_option maxHeartbeats 800000 in
theorem textOf_any {P : Nat → Prop} (v : Value) (t : Tr) (w : World) (h : ItemAt w P v t) : Calls Tryd.prog 34 #[v] w fun e w' => e = .returned (.tuple #[.string (txtV t), .bool (isX t)]) ∧ w = w' := by
  cases t with
  | num n =>
    rw [ItemAt] at h; subst h; unfold vNum txtV isX
    go_enter Tryd.func34, Tryd.ntmps34
    go_wp2_with fail
    go_returns
    exact ⟨rfl, rfl⟩
  | text s =>
    rw [ItemAt] at h; subst h; unfold vText txtV isX
    go_enter Tryd.func34, Tryd.ntmps34
    go_wp2_with fail
    go_returns
    exact ⟨rfl, rfl⟩
  | list l =>
    rw [ItemAt] at h; obtain ⟨b, a, c, h1, _, _⟩ := h; subst h1; unfold vList txtV isX
    go_enter Tryd.func34, Tryd.ntmps34
    go_wp2_with fail
    go_returns
    exact ⟨rfl, rfl⟩
set_option maxRecDepth 100000 in
set_option maxHeartbeats 800000 in
theorem asnum_any {P : Nat → Prop} (v : Value) (t : Tr) (w : World) (h : ItemAt w P v t) : Calls Tryd.prog 13 #[v] w fun e w' => e = .returned (.tuple #[.int .i64 (numV t), .bool (isN t)]) ∧ w = w' := by
  have HO := Lib.hid (numberOf_any v t w h)
  clear h
  go_enter Tryd.func13, Tryd.ntmps13
  go_wp2_with fail
  refine HO.out.mono ?_
  rintro e w1 ⟨rfl, rfl⟩
  go_wp2_with fail
  go_returns
  exact ⟨rfl, rfl⟩
set_option maxRecDepth 100000 in
set_option maxHeartbeats 800000 in
theorem astext_any {P : Nat → Prop} (v : Value) (t : Tr) (w : World) (h : ItemAt w P v t) : Calls Tryd.prog 14 #[v] w fun e w' => e = .returned (.tuple #[.string (txtV t), .bool (isX t)]) ∧ w = w' := by
  have HO := Lib.hid (textOf_any v t w h)
  clear h
  go_enter Tryd.func14, Tryd.ntmps14
  go_wp2_with fail
  refine HO.out.mono ?_
  rintro e w1 ⟨rfl, rfl⟩
  go_wp2_with fail
  go_returns
  exact ⟨rfl, rfl⟩
set_option maxRecDepth 100000 in
set_option maxHeartbeats 800000 in
theorem itemsOf_any {P : Nat → Prop} (v : Value) (t : Tr) (w : World) (h : ItemAt w P v t) : Calls Tryd.prog 35 #[v] w fun e w' => ∃ a c, e = .returned (.tuple #[.slice a (lenV t) c, .bool (isL t)]) ∧ w = w' ∧ ∀ (k : Nat) (x : Tr), (kidsT t)[k]? = some x → ∃ g u, a = some ⟨g, 0, none⟩ ∧ w.cell? ⟨g, k, none⟩ = some u ∧ ItemAt w P u x := by
  cases t with
  | num n =>
    rw [ItemAt] at h; subst h; unfold vNum lenV isL kidsT
    go_enter Tryd.func35, Tryd.ntmps35
    go_wp2_with fail
    go_returns
    exact ⟨none, 0, rfl, rfl, fun k x hx => by simp at hx⟩
  | text s =>
    rw [ItemAt] at h; subst h; unfold vText lenV isL kidsT
    go_enter Tryd.func35, Tryd.ntmps35
    go_wp2_with fail
    go_returns
    exact ⟨none, 0, rfl, rfl, fun k x hx => by simp at hx⟩
  | list l =>
    rw [ItemAt] at h
    obtain ⟨b, a, c, h1, h2, h3, h4⟩ := h
    subst h1
    obtain ⟨y0, y1⟩ := cells2I h3
    have H4 := Lib.hid h4
    clear h3 h4
    unfold vList lenV isL kidsT
    go_enter Tryd.func35, Tryd.ntmps35
    go_wp2_with fail
    go_returns
    refine ⟨a, c, rfl, rfl, fun k x hx => ?_⟩
    obtain ⟨g, e, _, hi⟩ := H4.out (by have := (List.getElem?_eq_some_iff.1 hx).1; omega)
    obtain ⟨u, hu, hu2⟩ := hi.at_ hx
    rw [Nat.zero_add] at hu
    exact ⟨g, u, e, hu, hu2⟩
set_option maxRecDepth 100000 in
set_option maxHeartbeats 800000 in
theorem ilen_any {P : Nat → Prop} (v : Value) (t : Tr) (w : World) (h : ItemAt w P v t) : Calls Tryd.prog 15 #[v] w fun e w' => e = .returned (.tuple #[.int .i64 (lenV t), .bool (isL t)]) ∧ w = w' := by
  have HO := Lib.hid (itemsOf_any v t w h)
  clear h
  go_enter Tryd.func15, Tryd.ntmps15
  go_wp2_with fail
  refine HO.out.mono ?_
  rintro e w1 ⟨a, c, rfl, rfl, _⟩
  go_wp2_with fail
  go_returns
  exact ⟨rfl, rfl⟩
set_option maxRecDepth 100000 in
set_option maxHeartbeats 1600000 in
theorem itemAt_any {P : Nat → Prop} (v : Value) (t : Tr) (i : Int) (w : World) (h : ItemAt w P v t) : Calls Tryd.prog 36 #[v, .int .i64 i] w fun e w' => ∃ u, e = .returned (.tuple #[u, .int .i64 (stepE t i)]) ∧ w = w' ∧ Hid (stepE t i = 0 → ItemAt w P u (stepT t i)) ∧ Hid (stepE t i ≠ 0 → u = .nilIface) := by
  have HO := Lib.hid (itemsOf_any v t w h)
  clear h
  by_cases hL : isL t = false
  · have e1 : stepE t i = 6 := by unfold stepE; rw [if_pos hL]
    rw [e1]
    rw [hL] at HO
    generalize lenV t = N at *
    clear e1 hL
    go_enter Tryd.func36, Tryd.ntmps36
    go_wp2_with fail
    refine HO.out.mono ?_
    rintro e w1 ⟨a, c, rfl, rfl, _⟩
    go_wp2_with fail
    go_returns
    exact ⟨.nilIface, rfl, rfl, Lib.hid (fun q => absurd q (by decide)), Lib.hid (fun _ => rfl)⟩
  · have hL2 : isL t = true := by simpa using hL
    rw [hL2] at HO
    by_cases hr : i < 0 ∨ (lenV t : Int) ≤ i
    · have e1 : stepE t i = 10 := by unfold stepE; rw [if_neg hL, if_pos hr]
      rw [e1]
      generalize lenV t = N at *
      clear e1 hL hL2
      by_cases hn : i < 0
      · clear hr
        go_enter Tryd.func36, Tryd.ntmps36
        go_wp2_with fail
        refine HO.out.mono ?_
        rintro e w1 ⟨a, c, rfl, rfl, _⟩
        go_wp2_with fail
        go_returns
        exact ⟨.nilIface, rfl, rfl, Lib.hid (fun q => absurd q (by decide)), Lib.hid (fun _ => rfl)⟩
      · have hge : (N : Int) ≤ i := by omega
        clear hr
        go_enter Tryd.func36, Tryd.ntmps36
        go_wp2_with fail
        refine HO.out.mono ?_
        rintro e w1 ⟨a, c, rfl, rfl, _⟩
        go_wp2_with fail
        go_returns
        exact ⟨.nilIface, rfl, rfl, Lib.hid (fun q => absurd q (by decide)), Lib.hid (fun _ => rfl)⟩
    · have e1 : stepE t i = 0 := by unfold stepE; rw [if_neg hL, if_neg hr]
      rw [e1]
      have hlk : lenV t = (kidsT t).length := by cases t <;> rfl
      obtain ⟨k, rfl⟩ := Int.eq_ofNat_of_zero_le (show 0 ≤ i by omega)
      have hk : k < (kidsT t).length := by rw [← hlk]; omega
      obtain ⟨x, hx⟩ : ∃ x, (kidsT t)[k]? = some x := ⟨_, List.getElem?_eq_getElem hk⟩
      have e2 : stepT t (k : Int) = x := by unfold stepT; rw [Int.toNat_natCast, List.getD_eq_getElem?_getD, hx]; rfl
      rw [e2]
      have d1 : ¬ (k : Int) < 0 := by omega
      have d2 : ¬ (lenV t : Int) ≤ (k : Int) := by omega
      have d3 : (k : Int) < (lenV t : Int) := by omega
      have d4 : (0 : Int) ≤ (k : Int) := by omega
      have HX := Lib.hid hx
      clear e1 e2 hL hL2 hr hlk hk hx
      generalize lenV t = N at *
      go_enter Tryd.func36, Tryd.ntmps36
      go_wp2_with fail
      refine HO.out.mono ?_
      rintro e w1 ⟨a, c, rfl, rfl, hK⟩
      obtain ⟨g, u, rfl, c0, hu⟩ := hK k x HX.out
      obtain ⟨ty, uu, rfl⟩ := item_iface hu
      have HU := Lib.hid hu
      clear hu hK
      go_wp2_with fail
      go_returns
      exact ⟨.iface ty uu, rfl, rfl, Lib.hid (fun _ => HU.out), Lib.hid (fun q => absurd rfl q)⟩
set_option maxRecDepth 100000 in
set_option maxHeartbeats 800000 in
theorem iat_any {P : Nat → Prop} (v : Value) (t : Tr) (i : Int) (w : World) (h : ItemAt w P v t) : Calls Tryd.prog 16 #[v, .int .i64 i] w fun e w' => ∃ u, e = .returned (.tuple #[u, .bool (stepE t i == 0)]) ∧ w = w' ∧ Hid (stepE t i = 0 → ItemAt w P u (stepT t i)) ∧ Hid (stepE t i ≠ 0 → u = .nilIface) := by
  have HO := Lib.hid (itemAt_any v t i w h)
  clear h
  go_enter Tryd.func16, Tryd.ntmps16
  go_wp2_with fail
  refine HO.out.mono ?_
  rintro e w1 ⟨u, rfl, rfl, h1, h2⟩
  go_wp2_with fail
  go_returns
  exact ⟨u, rfl, rfl, h1, h2⟩
/-- a row of places in memory -/
def PlacesAt (w : World) (v : Value) (is : List Int) : Prop := ∃ a c, v = .slice a is.length c ∧ ∀ (j : Nat) (i : Int), is[j]? = some i → ∃ g, a = some ⟨g, 0, none⟩ ∧ w.cell? ⟨g, j, none⟩ = some (.int .i64 i)
set_option maxRecDepth 100000 in
set_option maxHeartbeats 3200000 in
theorem ipath_any {P : Nat → Prop} (v : Value) (t : Tr) (pv : Value) (is : List Int) (w : World) (h : ItemAt w P v t) (hp : PlacesAt w pv is) (hn : is.length ≤ 1000) : Calls Tryd.prog 17 #[v, pv] w fun e w' => ∃ u, e = .returned (.tuple #[u, .int .i64 (pathE t is)]) ∧ w = w' ∧ Hid (pathE t is = 0 → ItemAt w P u (pathT t is)) := by
  obtain ⟨a, c, rfl, hc⟩ := hp
  have HI := Lib.hid (isItem_any v t w h)
  have HH := Lib.hid h
  have HC := Lib.hid hc
  clear h hc
  go_enter Tryd.func17, Tryd.ntmps17
  go_wp2_with fail
  refine HI.out.mono ?_
  rintro e w1 ⟨rfl, rfl⟩
  go_wp2_with fail
  go_loopw [0, 7, 8, 9, 15] (fun xv _ _ _ iv wr => ∃ (k : Nat) (v' : Value) (t' : Tr), v' = xv ∧ iv = .int .i64 k ∧ k ≤ is.length ∧ wr = w ∧ Hid (ItemAt w P v' t' ∧ pathE t is = pathE t' (is.drop k) ∧ pathT t is = pathT t' (is.drop k))) (fun _ _ _ _ iv _ => is.length - (intOf iv).toNat)
  case atStart => exact ⟨0, v, t, rfl, rfl, Nat.zero_le _, rfl, Lib.hid ⟨HH.out, by rw [List.drop_zero], by rw [List.drop_zero]⟩⟩
  case round =>
    obtain ⟨k, v', t', rfl, rfl, hk, rfl, HR⟩ := hrel
    by_cases hlt : k < is.length
    · have d1 : (k : Int) < (is.length : Int) := by omega
      have d0 : (0 : Int) ≤ (k : Int) := by omega
      obtain ⟨i, hi⟩ : ∃ i, is[k]? = some i := ⟨_, List.getElem?_eq_getElem hlt⟩
      obtain ⟨g, rfl, c0⟩ := HC.out k i hi
      have hdr : is.drop k = i :: is.drop (k + 1) := by
        obtain ⟨hq, he⟩ := List.getElem?_eq_some_iff.1 hi
        rw [← he, List.getElem_cons_drop]
      have HA := Lib.hid (itemAt_any v' t' i wr HR.out.1)
      have HD := Lib.hid hdr
      have rk : IntKind.i64.wrap ((k : Int) + 1) = ((k + 1 : Nat) : Int) := by rw [IntWalk.i64_in _ (by omega)]; rfl
      have HE : Hid (stepE t' i = 0 → pathE t is = pathE (stepT t' i) (is.drop (k + 1)) ∧ pathT t is = pathT (stepT t' i) (is.drop (k + 1))) := Lib.hid (fun q => by
        rw [HR.out.2.1, HR.out.2.2, hdr, pathE, if_pos q, pathT]; exact ⟨rfl, rfl⟩)
      have HE2 : Hid (stepE t' i ≠ 0 → pathE t is = stepE t' i) := Lib.hid (fun q => by
        rw [HR.out.2.1, hdr, pathE, if_neg q])
      clear hdr hi
      generalize stepE t' i = E1 at *
      by_cases h0 : E1 = 0
      · have b0 : (E1 != 0) = false := by simp [h0]
        have HH0 := Lib.hid h0
        clear h0
        go_wp2_with fail
        refine HA.out.mono ?_
        rintro e w2 ⟨u, rfl, rfl, h1, h2⟩
        go_wp2_with fail
        go_roundw
        case rel => exact ⟨k + 1, u, stepT t' i, rfl, by first | rfl | go_num, by omega, by first | rfl | trivial, Lib.hid ⟨h1.out HH0.out, HE.out HH0.out⟩⟩
        case measure => simp [intOf] <;> omega
      · have b0 : (E1 != 0) = true := by simp [h0]
        have HH0 := Lib.hid h0
        clear h0
        go_wp2_with fail
        refine HA.out.mono ?_
        rintro e w2 ⟨u, rfl, rfl, h1, h2⟩
        go_wp2_with fail
        go_returns
        exact ⟨.nilIface, by rw [HE2.out HH0.out]; rfl, rfl, Lib.hid (fun q => absurd ((HE2.out HH0.out).symm.trans q) HH0.out)⟩
    · have hkn : k = is.length := by omega
      subst hkn
      have d1 : ¬ ((is.length : Nat) : Int) < (is.length : Int) := by omega
      have h9 := HR.out
      rw [List.drop_length, pathE, pathT] at h9
      have H9 := Lib.hid h9
      clear h9 HR
      go_wp2_with fail
      go_returns
      exact ⟨v', by rw [H9.out.2.1]; rfl, rfl, Lib.hid (fun _ => by rw [H9.out.2.2]; exact H9.out.1)⟩
end Go.Proofs.YtemgeelgkokpcaaDoor
