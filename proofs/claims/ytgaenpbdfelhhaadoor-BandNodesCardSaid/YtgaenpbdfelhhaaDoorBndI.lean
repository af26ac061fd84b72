/- The walks of IndexFunc and DeleteFunc at band's Keys's closure (by program out of PrfI, PrfD, PrfAl); of Of, Keys. -/
import Derived.Test.YtgaenpbdfelhhaaDoorBandNodesB3
import Derived.Test.YtgaenpbdfelhhaaDoorBandNodesB1
import Derived.Test.YtgaenpbdfelhhaaDoorBandNodesB2
import Derived.Deep.RegionHeld3
namespace Go.Proofs.YtgaenpbdfelhhaaDoor
open Go.RowKit Go.Maps
attribute [local irreducible] shaL

set_option maxRecDepth 100000 in
set_option maxHeartbeats 1600000 in
theorem index_bkeys (P : ByteArray → Bool) (a : Option Addr) (n c : Nat) (L : List ByteArray) (w : World) (c1 c2 : Value) (hv : StrsAt w (.slice a n c) L) (hn : n ≤ 1000000)
    (hF : ∀ (k : ByteArray) (w' : World), k ∈ L → w.grownBy w' none → Calls Tryd.prog 36 #[.string k, c1, c2] w' fun e w'' => e = .returned (.bool (P k)) ∧ w'.grownBy w'' none) :
    Calls Tryd.prog 61 #[.slice a n c, .func (Fn.func 36) #[] #[c1, c2]] w fun e w' => e = .returned (.int .i64 (firstI L P)) ∧ w.grownBy w' none := by
  have hln : L.length = n := by obtain ⟨_, _, e, _⟩ := hv; injection e with _ e _; exact e.symm
  have HV := Lib.hid hv
  have HF := Lib.hid hF
  have HLN := Lib.hid hln
  clear hv hF hln
  go_enter Tryd.func61, Tryd.ntmps61
  go_wp2_with fail
  go_loopw [5, 8] (fun _ iv wr => ∃ k : Nat, k ≤ n ∧ iv = .int .i64 k ∧ Hid (∀ j, (h : j < L.length) → j < k → P L[j] = false) ∧ Hid (w.grownBy wr none)) (fun _ iv _ => n - (intOf iv).toNat)
  case atStart => exact ⟨0, Nat.zero_le _, rfl, Lib.hid (fun j _ h => absurd h (Nat.not_lt_zero j)), World.grownBy.refl _ _⟩
  case round =>
    obtain ⟨k, hk, rfl, HK, HG⟩ := hrel
    by_cases hlt : k < n
    · have d1 : (k : Int) < (n : Int) := by omega
      have d0 : (0 : Int) ≤ (k : Int) := by omega
      have hkl : k < L.length := by have := HLN.out; omega
      obtain ⟨x, hx⟩ : ∃ x, L[k]? = some x := ⟨_, List.getElem?_eq_getElem hkl⟩
      have hxe : L[k] = x := (List.getElem?_eq_some_iff.1 hx).2
      obtain ⟨g, o, rfl, hcell⟩ := HV.out.at_ k x hx
      have hc : wr.cell? ⟨g, o + k, none⟩ = some (.string x) := HG.out.cell hcell (by simp)
      have hfx := HF.out x wr (List.mem_of_getElem? hx) HG.out
      have HX := Lib.hid hxe
      clear hx hxe hcell
      cases hP : P x
      · rw [hP] at hfx
        have HFX := Lib.hid hfx
        have HPX := Lib.hid hP
        clear hfx hP
        go_wp2_with fail
        refine HFX.out.mono ?_
        rintro e w3 ⟨rfl, g3⟩
        have HG3 := Lib.hid (grownBy_trans HG.out g3)
        clear g3
        go_wp2_with fail
        go_roundw
        case rel =>
          refine ⟨k + 1, by omega, by go_num, Lib.hid (fun j h hj => ?_), HG3.out⟩
          by_cases hjk : j = k
          · subst hjk; rw [HX.out]; exact HPX.out
          · exact HK.out j h (by omega)
        case measure => simp [intOf]; omega
      · rw [hP] at hfx
        have HFX := Lib.hid hfx
        have HPX := Lib.hid hP
        clear hfx hP
        go_wp2_with fail
        refine HFX.out.mono ?_
        rintro e w3 ⟨rfl, g3⟩
        have HG3 := Lib.hid (grownBy_trans HG.out g3)
        clear g3
        go_wp2_with fail
        go_ret
        exact ⟨by rw [firstI_at L P k hkl (by rw [HX.out]; exact HPX.out) HK.out]; rfl, HG3.out⟩
    · have hkn : k = n := by omega
      subst hkn
      have d1 : ¬ (k : Int) < (k : Int) := by omega
      go_wp2_with fail
      go_ret
      exact ⟨by rw [firstI_none L P (fun j h => HK.out j h (by have := HLN.out; omega))]; rfl, HG.out⟩
set_option maxRecDepth 100000 in
set_option maxHeartbeats 3200000 in
theorem delete_bkeys (P : ByteArray → Bool) (B g n c : Nat) (L : List ByteArray) (w : World) (c1 c2 : Value) (hv : w.ownsRow B 9 1 (.slice (some ⟨g, 0, none⟩) n c) n (strsV L)) (hn : n ≤ 1000000) (hnc : n ≤ c)
    (hF : ∀ (k : ByteArray) (w' : World), k ∈ L → w.grownBy w' (some g) → Calls Tryd.prog 36 #[.string k, c1, c2] w' fun e w'' => e = .returned (.bool (P k)) ∧ w'.grownBy w'' none) :
    Calls Tryd.prog 34 #[.slice (some ⟨g, 0, none⟩) n c, .func (Fn.func 36) #[] #[c1, c2]] w fun e w' => ∃ m : Nat, e = .returned (.slice (some ⟨g, 0, none⟩) m c) ∧ w'.ownsRow B 9 1 (.slice (some ⟨g, 0, none⟩) m c) m (strsV (L.filter fun x => !P x)) ∧ w.grownBy w' (some g) := by
  have hln : L.length = n := by have := hv.1; rw [strsV_length] at this; omega
  have HI := Lib.hid (index_bkeys P (some ⟨g, 0, none⟩) n c L w c1 c2 (strs_own hv) hn (fun k w' hk hg => hF k w' hk (grownBy_any hg _)))
  have HV := Lib.hid hv
  have HF := Lib.hid hF
  have HLN := Lib.hid hln
  rcases hfi : L.findIdx? P with _ | k
  · have hI : firstI L P = -1 := by unfold firstI; rw [hfi]
    rw [hI] at HI
    have hall : (L.filter fun x => !P x) = L := List.filter_eq_self.2 (fun x hx => by have := List.findIdx?_eq_none_iff.1 hfi x hx; simp [this])
    rw [hall]
    clear hv hF hln hI hall hfi
    go_enter Tryd.func34, Tryd.ntmps34
    go_wp2_with fail
    refine HI.out.mono ?_
    rintro e w1 ⟨rfl, g1⟩
    go_wp2_with fail
    go_ret
    exact ⟨n, rfl, own_keep HV.out g1 (fun x _ e => by cases e), grownBy_any g1 _⟩
  · have hI : firstI L P = (k : Int) := by unfold firstI; rw [hfi]
    obtain ⟨hk, hpk, hno⟩ := List.findIdx?_eq_some_iff_getElem.1 hfi
    rw [hI] at HI
    have hne1 : ((k : Int) == -1) = false := beq_eq_false_iff_ne.2 (by omega)
    have HK0 := Lib.hid (KeptL.start (fun x => !P x) L k hk (by simp [hpk]) (fun j hj hjk => by have := hno j hjk; simp at this; simp [this]))
    have hkn : k + 1 ≤ n := by omega
    have HKN := Lib.hid hkn
    have r1 : IntKind.i64.wrap ((k : Int) + 1) = ((k + 1 : Nat) : Int) := by rw [IntWalk.i64_in _ (by omega)]; rfl
    clear hv hF hln hI hfi hk hpk hno hkn
    go_enter Tryd.func34, Tryd.ntmps34
    go_wp2_with fail
    refine HI.out.mono ?_
    rintro e w1 ⟨rfl, g1⟩
    have HV1 := Lib.hid (own_keep HV.out g1 (fun x _ e => by cases e))
    have HG1 := Lib.hid (grownBy_any g1 (some g))
    clear g1 HI
    go_wp2_with fail
    go_loopw [5, 6, 7] (fun s5 s6 _ wr => ∃ (i j : Nat) (cur : List ByteArray), s5 = .int .i64 i ∧ s6 = .int .i64 j ∧ Hid (j ≤ n ∧ KeptL (fun x => !P x) L cur i j) ∧ Hid (wr.ownsRow B 9 1 (.slice (some ⟨g, 0, none⟩) n c) n (strsV cur)) ∧ Hid (w.grownBy wr (some g))) (fun _ jv _ _ => n - (intOf jv).toNat)
    case atStart => exact ⟨k, k + 1, L, rfl, by first | rfl | (rw [r1]) | (simp only [r1]) | trace_state, Lib.hid ⟨HKN.out, HK0.out⟩, HV1.out, HG1.out⟩
    case round =>
      obtain ⟨i, j, cur, rfl, rfl, HK, HO, HG⟩ := hrel
      have hjn := HK.out.1
      have hij := HK.out.2.lt
      by_cases hlt : j < n
      · have d1 : (j : Int) < (n : Int) := by omega
        have d0 : (0 : Int) ≤ (j : Int) := by omega
        have d2 : (i : Int) < (n : Int) := by omega
        have d3 : (0 : Int) ≤ (i : Int) := by omega
        obtain ⟨x, hx⟩ : ∃ x, L[j]? = some x := ⟨_, List.getElem?_eq_getElem (by have := HLN.out; omega)⟩
        have hxc : cur[j]? = some x := by rw [HK.out.2.at_ j (Nat.le_refl _)]; exact hx
        have hc := str_cell HO.out hxc
        obtain ⟨y, hy⟩ : ∃ y, cur[i]? = some y := ⟨_, List.getElem?_eq_getElem (by have := HK.out.2.len; have := HLN.out; omega)⟩
        have hci := str_cell HO.out hy
        have hfi := HO.out.frozenAt i
        have hfx := HF.out x wr (List.mem_of_getElem? hx) HG.out
        have HX := Lib.hid hx
        clear hx hxc hy
        cases hP : P x
        · rw [hP] at hfx
          have HFX := Lib.hid hfx
          have HPX := Lib.hid hP
          clear hfx hP
          go_wp2_with fail
          refine HFX.out.mono ?_
          rintro e w3 ⟨rfl, g3⟩
          have ho3 := own_keep HO.out g3 (fun x _ e => by cases e)
          have HG3 := Lib.hid (grownBy_trans HG.out (grownBy_any g3 (some g)))
          have hci3 : w3.cell? ⟨g, i, none⟩ = some (.string y) := (g3.cell hci (by simp))
          have hfi3 := ho3.frozenAt i
          have HO3 := Lib.hid ho3
          clear g3 hc hci hfi ho3
          go_wp2_with fail
          go_roundw
          case rel =>
            have hst := HO3.out.stored i (.string x)
            rw [strsV_set] at hst
            exact ⟨i + 1, j + 1, cur.set i x, by go_num, by go_num, Lib.hid ⟨by omega, HK.out.2.keep HX.out (by simp [HPX.out])⟩, hst.1, grownBy_trans HG3.out hst.2⟩
          case measure => simp [intOf]; omega
        · rw [hP] at hfx
          have HFX := Lib.hid hfx
          have HPX := Lib.hid hP
          clear hfx hP
          go_wp2_with fail
          refine HFX.out.mono ?_
          rintro e w3 ⟨rfl, g3⟩
          have ho3 := own_keep HO.out g3 (fun x _ e => by cases e)
          have HG3 := Lib.hid (grownBy_trans HG.out (grownBy_any g3 (some g)))
          have HO3 := Lib.hid ho3
          clear g3 hc hci hfi ho3
          go_wp2_with fail
          go_roundw
          case rel => exact ⟨i, j + 1, cur, rfl, by go_num, Lib.hid ⟨by omega, HK.out.2.skip HX.out (by simp [HPX.out])⟩, HO3.out, HG3.out⟩
          case measure => simp [intOf]; omega
      · have hjn2 : j = n := by omega
        subst hjn2
        have d1 : ¬ (j : Int) < (j : Int) := by omega
        have HIJ := Lib.hid hij
        have hcl : ∀ ty, (Builtin.clear_ #[34] ty #[.slice (some ⟨g, i, none⟩) (j - i) (c - i)]).run Tryd.prog wr = .ok (.tuple #[]) (wr.setCells g i (List.replicate (j - i) (.string ⟨#[]⟩))) :=
          fun ty => clear_strs wr ty g i (j - i) (c - i) (by omega) (fun t ht => by
            rw [HO.out.cellAt (i + t) (by omega), List.getElem?_eq_getElem (by have := HO.out.1; omega)]; rfl) (fun t _ => HO.out.frozenAt (i + t))
        have hset := own_setCells (List.replicate (j - i) (.string ⟨#[]⟩)) (strsV cur) i wr HO.out
        have HSET := Lib.hid hset
        have d4 : (i : Int) ≤ (j : Int) := by omega
        have d5 : (0 : Int) ≤ (i : Int) := by omega
        have d6 : (j : Int) ≤ (c : Int) := by omega
        have d7 : (i : Int) ≤ (c : Int) := by omega
        clear hset
        go_wp2_with fail
        go_ret
        have hcount := (show KeptL (fun x => !P x) L cur i L.length by rw [HLN.out]; exact HK.out.2).count
        refine ⟨i, rfl, ?_, grownBy_trans HG.out HSET.out.2⟩
        have ht := own_take HSET.out.1 i (by have := HIJ.out; omega)
        rw [setL_take, strsV_take, hcount.2] at ht
        exact ht
theorem delete_bnil (c1 c2 : Value) (w : World) : Calls Tryd.prog 34 #[.slice none 0 0, .func (Fn.func 36) #[] #[c1, c2]] w fun e w' => e = .returned (.slice none 0 0) ∧ w.grownBy w' none := by
  have HI := Lib.hid (index_bkeys (fun _ => false) none 0 0 [] w c1 c2 ⟨none, 0, rfl, fun i hi => absurd hi (Nat.not_lt_zero i)⟩ (by omega) (fun k w' hk _ => by cases hk))
  have hI : firstI [] (fun _ => false) = -1 := rfl
  rw [hI] at HI
  clear hI
  go_enter Tryd.func34, Tryd.ntmps34
  go_wp2_with fail
  refine HI.out.mono ?_
  rintro e w1 ⟨rfl, g1⟩
  go_wp2_with fail
  go_ret
  exact ⟨rfl, g1⟩
set_option maxHeartbeats 800000 in
theorem bof_any (key : ByteArray) (hk : key.size = 16) (d : Nat) (hd : d ≤ 4) (w : World) : Calls Tryd.prog 17 #[.string key, .int .i64 d] w fun e w' => e = .returned (.tuple #[.int .i64 (bandN key d : Nat), .int .i64 0]) ∧ w.grownBy w' none := by
  have HC := Lib.hid (bcount_in d hd w)
  have HB := Lib.hid (band_any key (by rw [hk]; unfold maxLen; omega) d (by omega) w)
  have h16 : ((key.size : Int) != 16) = false := by rw [hk]; rfl
  have hp : ((2 ^ d : Nat) : Int) ≠ 0 := by have : 0 < 2 ^ d := Nat.pow_pos (by decide); omega
  have hp0 : (((2 ^ d : Nat) : Int) == 0) = false := beq_eq_false_iff_ne.2 hp
  generalize ((2 ^ d : Nat) : Int) = Z at HC hp hp0
  clear hk hd hp
  go_enter Tryd.func17, Tryd.ntmps17
  go_wp2_with fail
  refine HC.out.mono ?_
  rintro e w1 ⟨rfl, rfl⟩
  go_wp2_with fail
  refine HB.out.mono ?_
  rintro e w1 ⟨rfl, g1⟩
  have HG := Lib.hid g1
  clear g1
  go_wp2_with fail
  go_returns
  exact ⟨rfl, HG.out⟩
set_option maxHeartbeats 800000 in
theorem bof_out (key : ByteArray) (z : Int) (hz : z < 0 ∨ z > 4) (w : World) : Calls Tryd.prog 17 #[.string key, .int .i64 z] w fun e w' => e = .returned (.tuple #[.int .i64 0, .int .i64 1]) ∧ w.grownBy w' none := by
  have HC := Lib.hid (bcount_out z hz w)
  clear hz
  go_enter Tryd.func17, Tryd.ntmps17
  go_wp2_with fail
  refine HC.out.mono ?_
  rintro e w1 ⟨rfl, rfl⟩
  go_wp2_with fail
  go_returns
  exact ⟨rfl, World.grownBy.refl _ _⟩
set_option maxHeartbeats 800000 in
theorem bof_short (key : ByteArray) (hk : key.size ≠ 16) (d : Nat) (hd : d ≤ 4) (w : World) : Calls Tryd.prog 17 #[.string key, .int .i64 d] w fun e w' => e = .returned (.tuple #[.int .i64 0, .int .i64 10]) ∧ w.grownBy w' none := by
  have HC := Lib.hid (bcount_in d hd w)
  have h16 : ((key.size : Int) != 16) = true := by simp; omega
  have hp : ((2 ^ d : Nat) : Int) ≠ 0 := by have : 0 < 2 ^ d := Nat.pow_pos (by decide); omega
  have hp0 : (((2 ^ d : Nat) : Int) == 0) = false := beq_eq_false_iff_ne.2 hp
  generalize ((2 ^ d : Nat) : Int) = Z at HC hp hp0
  clear hk hd hp
  go_enter Tryd.func17, Tryd.ntmps17
  go_wp2_with fail
  refine HC.out.mono ?_
  rintro e w1 ⟨rfl, rfl⟩
  go_wp2_with fail
  go_returns
  exact ⟨rfl, World.grownBy.refl _ _⟩
set_option maxHeartbeats 800000 in
theorem bkeys1_any (k : ByteArray) (hk : k.size ≤ maxLen) (d : Nat) (hd : d ≤ 16) (b : Int) (B1 B2 : Nat) (w : World) (h1 : w.cell? ⟨B1, 0, none⟩ = some (.int .i64 d)) (h2 : w.cell? ⟨B2, 0, none⟩ = some (.int .i64 b)) :
    Calls Tryd.prog 36 #[.string k, .pointer (some ⟨B1, 0, none⟩), .pointer (some ⟨B2, 0, none⟩)] w fun e w' => e = .returned (.bool ((bandN k d : Int) != b)) ∧ w.grownBy w' none := by
  have HB := Lib.hid (band_any k hk d hd w.drew)
  clear hk hd
  go_enter Tryd.func36, Tryd.ntmps36
  go_wp2_with fail
  go_region_held3 (fun w' => w'.cell? ⟨B1, 0, none⟩ = some (.int .i64 d) ∧ w'.cell? ⟨B2, 0, none⟩ = some (.int .i64 b)) (first | exact ck | exact ⟨h1, h2⟩)
    (first
      | (go_at_call 37; (with_reducible refine (HB.out).mono ?_); rintro e w6 ⟨rfl, g6⟩; have ck : w6.cell? ⟨B1, 0, none⟩ = some (.int .i64 d) ∧ w6.cell? ⟨B2, 0, none⟩ = some (.int .i64 b) := ⟨g6.cell h1 (by simp), g6.cell h2 (by simp)⟩))
  have HG := Lib.hid (grownBy_trans (grownBy_drew (World.grownBy.refl w none)) g6)
  clear g6 ck
  go_wp2_with fail
  go_ret
  exact ⟨rfl, HG.out⟩
end Go.Proofs.YtgaenpbdfelhhaaDoor
