/- The walk of the law EntryCodes. -/
import Derived.Test.YtgaenpbdfelhhaaDoorEntK
import Derived.Test.YtgaenpbdfelhhaaDoorEntR
import Derived.Test.YtgaenpbdfelhhaaDoorEntB
namespace Go.Proofs.YtgaenpbdfelhhaaDoor
open Go.RowKit
attribute [local irreducible] shaL

def txV (L : List ByteArray) : List Value := L.map Value.string
theorem txV_at (L : List ByteArray) (i : Nat) (h : i < L.length) : (txV L)[i]? = some (.string L[i]) := by simp [txV, h]
theorem txV_set (L : List ByteArray) (i : Nat) (s : ByteArray) : (txV L).toArray.setIfInBounds i (.string s) = (txV (L.set i s)).toArray := by simp [txV, List.map_set]
theorem strs_grow17 {w w' : World} {v : Value} {L : List ByteArray} (h : StrsAt w v L) (k : w.grownBy w' none) : StrsAt w' v L := by
  obtain ⟨a, c, e, hc⟩ := h
  refine ⟨a, c, e, fun i hi => ?_⟩
  obtain ⟨g, o, e2, h1⟩ := hc i hi
  exact ⟨g, o, e2, k.cell h1 (by simp)⟩
/-- what the law holds on to: the entry, the document's, the text -/
structure CodesIn (XB YB TB : Nat) (w : World) (x : EntS) (T : List ByteArray) (w' : World) : Prop where
  gr : w.grownBy w' none
  hx : w'.heap[XB]? = some (.cells x.cells.toArray 52 (0, 0))
  hy : w'.heap[YB]? = some (.cells x.cells.toArray 54 (0, 0))
  ht : w'.heap[TB]? = some (.cells (txV T).toArray 48 (0, 0))
theorem CodesIn.go {XB YB TB : Nat} {w a c : World} {x : EntS} {T : List ByteArray} (h : CodesIn XB YB TB w x T a) (g : a.grownBy c none) : CodesIn XB YB TB w x T c :=
  ⟨grownBy_trans h.gr g, g.heap h.hx (by simp), g.heap h.hy (by simp), g.heap h.ht (by simp)⟩
theorem CodesIn.drew {XB YB TB : Nat} {w a : World} {x : EntS} {T : List ByteArray} (h : CodesIn XB YB TB w x T a) : CodesIn XB YB TB w x T a.drew := ⟨grownBy_drew h.gr, h.hx, h.hy, h.ht⟩
theorem CodesIn.cells {XB YB TB : Nat} {w a : World} {v : Nat} {o r p t : ByteArray} {z : Int} (h : CodesIn XB YB TB w ⟨v, o, r, z, p⟩ [o, r, p, t] a) :
    a.cell? ⟨XB, 0, none⟩ = some (.int .u64 v) ∧ a.cell? ⟨XB, 1, none⟩ = some (.string o) ∧ a.cell? ⟨XB, 2, none⟩ = some (.string r) ∧ a.cell? ⟨XB, 3, none⟩ = some (.int .i64 z) ∧ a.cell? ⟨XB, 4, none⟩ = some (.string p) ∧
    a.cell? ⟨YB, 0, none⟩ = some (.int .u64 v) ∧ a.cell? ⟨YB, 1, none⟩ = some (.string o) ∧ a.cell? ⟨YB, 2, none⟩ = some (.string r) ∧ a.cell? ⟨YB, 3, none⟩ = some (.int .i64 z) ∧ a.cell? ⟨YB, 4, none⟩ = some (.string p) ∧ a.cell? ⟨TB, 3, none⟩ = some (.string t) := by
  have h1 : a.heap[XB]? = some (.cells #[.int .u64 v, .string o, .string r, .int .i64 z, .string p] 52 (0, 0)) := h.hx
  have h2 : a.heap[YB]? = some (.cells #[.int .u64 v, .string o, .string r, .int .i64 z, .string p] 54 (0, 0)) := h.hy
  have h3 : a.heap[TB]? = some (.cells #[.string o, .string r, .string p, .string t] 48 (0, 0)) := h.ht
  obtain ⟨a0, a1, a2, a3, a4⟩ := cells5 h1
  obtain ⟨b0, b1, b2, b3, b4⟩ := cells5 h2
  exact ⟨a0, a1, a2, a3, a4, b0, b1, b2, b3, b4, by rw [cell_of h3]; rfl⟩
set_option maxRecDepth 100000 in
set_option maxHeartbeats 1600000 in
theorem entryCodes_walk (v : Nat) (hv : v ≤ 18446744073709551615) (L : List ByteArray) (hL : L.length = 4) (hsz : ∀ s ∈ L, s.size ≤ maxLen) (z : Int) (w : World) (hr : ShaReady w) :
    Calls Tryd.prog 4 #[.int .u64 v, .agg (L.map Value.string).toArray, .int .i64 z] w fun e w' => e = .returned (.bool true) ∧ w.grownBy w' none := by
  have HR := Lib.hid hr
  obtain ⟨TB, hTB⟩ : ∃ TB, w.heap.size = TB := ⟨_, rfl⟩
  have hb0 := heap_alloc_at w (.cells (L.map Value.string).toArray 48) TB hTB
  have hg0 : w.grownBy (w.alloc (.cells (L.map Value.string).toArray 48)) none := World.grownBy_alloc _ _ _
  obtain ⟨W0, hW0⟩ : ∃ W0, w.alloc (.cells (L.map Value.string).toArray 48) = W0 := ⟨_, rfl⟩
  rw [hW0] at hb0 hg0
  have HB0 : Hid (W0.heap[TB]? = some (.cells (txV L).toArray 48 (0, 0))) := hb0
  have HG0 := Lib.hid hg0
  have HW0 := Lib.hid (And.intro hW0 hTB)
  have HSP := Lib.hid (ent_speaks W0 (hr.grown hg0))
  have HSZ := Lib.hid hsz
  have HLL := Lib.hid hL
  obtain ⟨l0, l1, l2, l3, rfl⟩ : ∃ a b c d, L = [a, b, c, d] := by
    match L, hL with
    | [a, b, c, d], _ => exact ⟨a, b, c, d, rfl⟩
  have HW1 : Hid (w.alloc (.cells #[.string l0, .string l1, .string l2, .string l3] 48) = W0 ∧ w.heap.size = TB) := HW0
  show Calls _ _ #[.int .u64 v, .agg #[.string l0, .string l1, .string l2, .string l3], .int .i64 z] _ _
  clear hb0 hg0 hW0 hr hTB hsz hL HW0
  go_enter Tryd.func4, Tryd.ntmps4
  go_wp2_with (rw [HW1.out.1, HW1.out.2])
  refine HSP.out.mono ?_
  rintro e w1 ⟨rfl, g1⟩
  have HB1 := Lib.hid (g1.heap HB0.out (by simp))
  have HG1 := Lib.hid (grownBy_trans HG0.out g1)
  have HTB := Lib.hid HW1.out.2
  clear g1 HSP HB0 HG0 HW1
  go_wp2_with fail
  go_loopw [7] (fun iv wr => ∃ (i : Nat) (T : List ByteArray), i ≤ 4 ∧ iv = .int .i64 i ∧ Hid (T.length = 4) ∧ Hid (∀ j s, T[j]? = some s → s.size ≤ maxLen ∧ (j < i → s.size ≤ 20)) ∧ Hid (wr.heap[TB]? = some (.cells (txV T).toArray 48 (0, 0))) ∧ Hid (w.grownBy wr none)) (fun iv _ => 4 - (intOf iv).toNat)
  case atStart => exact ⟨0, _, by decide, rfl, HLL.out, fun j s hs => ⟨HSZ.out s (List.mem_of_getElem? hs), fun h => absurd h (by omega)⟩, HB1.out, HG1.out⟩
  case round =>
    clear HB1 HG1 HSZ HLL
    obtain ⟨i, T, hi, rfl, HTL, HTS, HB, HG⟩ := hrel
    by_cases hlt : i < 4
    · have d1 : (i : Int) < 4 := by omega
      have d0 : (0 : Int) ≤ (i : Int) := by omega
      have hil : i < T.length := by have := HTL.out; omega
      obtain ⟨x, hx⟩ : ∃ x, T[i]? = some x := ⟨_, List.getElem?_eq_getElem hil⟩
      have hxs := (HTS.out i x hx).1
      unfold maxLen at hxs
      have c0 : wr.cell? ⟨TB, i, none⟩ = some (.string x) := by
        rw [cell_of HB.out, List.getElem?_toArray, txV_at T i hil]
        rw [List.getElem?_eq_getElem hil] at hx
        rw [Option.some.inj hx]
      have f0 : wr.frozen? ⟨TB, i, none⟩ = false := free_of HB.out i
      have c0' : wr.drew.cell? ⟨TB, i, none⟩ = some (.string x) := c0
      have f0' : wr.drew.frozen? ⟨TB, i, none⟩ = false := f0
      have HIL := Lib.hid hil
      have hfin : ∀ y : ByteArray, y.size ≤ 20 → ∃ (i' : Nat) (T' : List ByteArray), i' ≤ 4 ∧ Value.int .i64 ((i + 1 : Nat) : Int) = .int .i64 i' ∧ Hid (T'.length = 4) ∧ Hid (∀ j s, T'[j]? = some s → s.size ≤ maxLen ∧ (j < i' → s.size ≤ 20)) ∧ Hid ((wr.drew.setCell ⟨TB, i, none⟩ (.string y)).heap[TB]? = some (.cells (txV T').toArray 48 (0, 0))) ∧ Hid (w.grownBy (wr.drew.setCell ⟨TB, i, none⟩ (.string y)) none) := by
        intro y hy
        refine ⟨i + 1, T.set i y, by omega, rfl, by show _ = _; rw [List.length_set]; exact HTL.out, ?_, ?_, ?_⟩
        · intro j s hs
          by_cases hji : i = j
          · subst hji
            rw [List.getElem?_set_self HIL.out] at hs
            cases hs
            exact ⟨by unfold maxLen; omega, fun _ => hy⟩
          · rw [List.getElem?_set_ne hji] at hs
            have h := HTS.out j s hs
            exact ⟨h.1, fun h2 => h.2 (by omega)⟩
        · show _ = _
          have h := heap_setCell (w := wr.drew) (b := TB) HB.out i (.string y)
          rw [txV_set] at h
          exact h
        · exact grownBy_setNew (grownBy_drew HG.out) (by have := HTB.out; omega) _ _
      have HFIN := Lib.hid hfin
      clear hx hfin
      by_cases hz : x.size ≤ 20
      · have hz2 : (x.size : Int) ≤ 20 := by omega
        have HZ := Lib.hid hz
        go_wp2_with fail
        go_region
        all_goals
          go_wp2_with fail
          go_roundw
          case rel => exact HFIN.out _ (by first | exact HZ.out | (rw [ByteArray.size_extract]; omega))
          case measure => simp [intOf]; omega
      · have hz2 : ¬ (x.size : Int) ≤ 20 := by omega
        have hz3 : (20 : Int) < (x.size : Int) := by omega
        have hz4 : (20 : Int) ≤ (x.size : Int) := by omega
        go_wp2_with fail
        go_region
        all_goals
          go_wp2_with fail
          go_roundw
          case rel => exact HFIN.out _ (by rw [ByteArray.size_extract]; omega)
          case measure => simp [intOf]; omega
    · have hi4 : i = 4 := by omega
      subst hi4
      have d1 : ¬ ((4 : Nat) : Int) < 4 := by omega
      obtain ⟨o, r, p, t, rfl⟩ : ∃ a b c d, T = [a, b, c, d] := by
        match T, HTL.out with
        | [a, b, c, d], _ => exact ⟨a, b, c, d, rfl⟩
      have ho : o.size ≤ 20 := (HTS.out 0 o rfl).2 (by decide)
      have hr : r.size ≤ 20 := (HTS.out 1 r rfl).2 (by decide)
      have hp : p.size ≤ 20 := (HTS.out 2 p rfl).2 (by decide)
      have ht : t.size ≤ 20 := (HTS.out 3 t rfl).2 (by decide)
      have hsm : (⟨v, o, r, z, p⟩ : EntS).small := ⟨hv, by show o.size ≤ _; omega, by show r.size ≤ _; omega, by show p.size ≤ _; omega⟩
      have HBT : Hid (wr.heap[TB]? = some (.cells #[.string o, .string r, .string p, .string t] 48 (0, 0))) := HB
      have b0 : wr.cell? ⟨TB, 0, none⟩ = some (.string o) := by rw [cell_of HBT.out]; rfl
      have b1 : wr.cell? ⟨TB, 1, none⟩ = some (.string r) := by rw [cell_of HBT.out]; rfl
      have b2 : wr.cell? ⟨TB, 2, none⟩ = some (.string p) := by rw [cell_of HBT.out]; rfl
      -- both entries in memory
      obtain ⟨XB, hXB⟩ : ∃ XB, wr.heap.size = XB := ⟨_, rfl⟩
      have hbx := heap_alloc_at wr (.cells #[.int .u64 v, .string o, .string r, .int .i64 z, .string p] 52) XB hXB
      have hgx := World.grownBy_alloc wr (.cells #[.int .u64 v, .string o, .string r, .int .i64 z, .string p] 52) none
      have hbt := hgx.heap HBT.out (by simp)
      have ct0 : (wr.alloc (.cells #[.int .u64 v, .string o, .string r, .int .i64 z, .string p] 52)).cell? ⟨TB, 0, none⟩ = some (.string o) := by rw [cell_of hbt]; rfl
      have ct1 : (wr.alloc (.cells #[.int .u64 v, .string o, .string r, .int .i64 z, .string p] 52)).cell? ⟨TB, 1, none⟩ = some (.string r) := by rw [cell_of hbt]; rfl
      have ct2 : (wr.alloc (.cells #[.int .u64 v, .string o, .string r, .int .i64 z, .string p] 52)).cell? ⟨TB, 2, none⟩ = some (.string p) := by rw [cell_of hbt]; rfl
      have hzx := World.size_alloc wr (.cells #[.int .u64 v, .string o, .string r, .int .i64 z, .string p] 52)
      obtain ⟨WX, hWX⟩ : ∃ WX, wr.alloc (.cells #[.int .u64 v, .string o, .string r, .int .i64 z, .string p] 52) = WX := ⟨_, rfl⟩
      rw [hWX] at hbx hgx hbt hzx
      rw [hXB] at hzx
      have hby := heap_alloc_at WX (.cells #[.int .u64 v, .string o, .string r, .int .i64 z, .string p] 54) (XB + 1) hzx
      have hgy := World.grownBy_alloc WX (.cells #[.int .u64 v, .string o, .string r, .int .i64 z, .string p] 54) none
      obtain ⟨WY, hWY⟩ : ∃ WY, WX.alloc (.cells #[.int .u64 v, .string o, .string r, .int .i64 z, .string p] 54) = WY := ⟨_, rfl⟩
      rw [hWY] at hby hgy
      have HC : Hid (CodesIn XB (XB + 1) TB w ⟨v, o, r, z, p⟩ [o, r, p, t] WY) := ⟨grownBy_trans (grownBy_trans HG.out hgx) hgy, hgy.heap hbx (by simp), hby, hgy.heap hbt (by simp)⟩
      have HWXY := Lib.hid (And.intro hWX (And.intro hWY (And.intro hXB hzx)))
      obtain ⟨y0, y1, y2, y3, y4, y5, y6, y7, y8, y9, y10⟩ := HC.out.cells
      have HEN := Lib.hid (fun w' => eencode_any ⟨v, o, r, z, p⟩ hsm w')
      have HRE := Lib.hid (fun w' => ref17enc_any ⟨v, o, r, z, p⟩ hsm w')
      have HVA := Lib.hid (fun w' q => evalue_any ⟨v, o, r, z, p⟩ hsm w' q)
      have HRV := Lib.hid (fun w' => ref17val_any ⟨v, o, r, z, p⟩ hsm w')
      have HNM := Lib.hid (fun w' q => ename_any t (by omega) w' q)
      have HTG : Hid (∀ (w' : World) (sv : Value), StrsAt w' sv [t] → Calls Tryd.prog 27 #[.int .u8 11, sv] w' fun e w'' => e = .returned (.string (tagS 11 [t])) ∧ w'.grownBy w'' none) := fun (w' : World) (sv : Value) (q : StrsAt w' sv [t]) => refTagged_any w' 11 sv [t] q (by simp) (by intro s hs; simp at hs; subst hs; omega)
      have hdec := fun he => decE_enc ⟨v, o, r, z, p⟩ he
      have hlen := fun he => EntS.len (x := ⟨v, o, r, z, p⟩) he
      have henc : ∀ he : (⟨v, o, r, z, p⟩ : EntS).err = 0, (⟨v, o, r, z, p⟩ : EntS).enc.size = 53 := fun he => by unfold EntS.enc; rw [if_pos he, str_size]; exact hlen he
      have HDC := Lib.hid (And.intro hdec henc)
      obtain ⟨er, her⟩ : ∃ er, (⟨v, o, r, z, p⟩ : EntS).err = er := ⟨_, rfl⟩
      obtain ⟨en, hen⟩ : ∃ en, (⟨v, o, r, z, p⟩ : EntS).enc = en := ⟨_, rfl⟩
      obtain ⟨va, hva⟩ : ∃ va, (⟨v, o, r, z, p⟩ : EntS).value = va := ⟨_, rfl⟩
      obtain ⟨nm, hnm⟩ : ∃ nm, tagS 11 [t] = nm := ⟨_, rfl⟩
      rw [her, hen] at HEN HRE HDC
      rw [hva] at HVA HRV
      rw [hnm] at HNM HTG
      unfold EntS.val at HEN HRE HVA HRV
      simp only at HEN HRE HVA HRV
      have e1 : (en.toList == en.toList) = true := by simp
      have e2 : (va.toList == va.toList) = true := by simp
      have e3 : (nm.toList == nm.toList) = true := by simp
      clear hlt hi HB HG HTS HTL hbx hgx hbt hzx hWX hby hgy hWY hdec hlen henc her hen hva hnm ho hr hp ht hXB
      go_wp2_with (rw [HWXY.out.1, HWXY.out.2.1, HWXY.out.2.2.1])
      refine (HEN.out _).mono ?_
      rintro e w3 ⟨rfl, g3⟩
      have HC3 := Lib.hid (HC.out.go g3)
      obtain ⟨y0, y1, y2, y3, y4, y5, y6, y7, y8, y9, y10⟩ := HC3.out.cells
      clear g3 ct0 ct1 ct2 b0 b1 b2
      go_wp2_with fail
      refine (HRE.out _).mono ?_
      rintro e w4 ⟨rfl, g4⟩
      have HC4 := Lib.hid (HC3.out.go g4)
      clear g4 y0 y1 y2 y3 y4 y5 y6 y7 y8 y9 y10
      have ck := HC4.out.drew
      go_wp2_with fail
      go_region_held3 (fun w' => w'.cell? ⟨XB, 0, none⟩ = some (.int .u64 v) ∧ w'.cell? ⟨XB, 1, none⟩ = some (.string o) ∧ w'.cell? ⟨XB, 2, none⟩ = some (.string r) ∧ w'.cell? ⟨XB, 3, none⟩ = some (.int .i64 z) ∧ w'.cell? ⟨XB, 4, none⟩ = some (.string p) ∧ w'.cell? ⟨XB + 1, 0, none⟩ = some (.int .u64 v) ∧ w'.cell? ⟨XB + 1, 1, none⟩ = some (.string o) ∧ w'.cell? ⟨XB + 1, 2, none⟩ = some (.string r) ∧ w'.cell? ⟨XB + 1, 3, none⟩ = some (.int .i64 z) ∧ w'.cell? ⟨XB + 1, 4, none⟩ = some (.string p) ∧ w'.cell? ⟨TB, 3, none⟩ = some (.string t)) (first | exact CodesIn.cells ck | exact CodesIn.cells (CodesIn.go ck (World.grownBy_alloc _ _ none)))
        (first
        | (go_at_call 24; (with_reducible refine (HVA.out _ (HR.out.grown (CodesIn.gr ck))).mono ?_); rintro e w5 ⟨rfl, g5⟩; have ck := CodesIn.go ck g5)
        | (go_at_call 25; (with_reducible refine (HRV.out _).mono ?_); rintro e w6 ⟨rfl, g6⟩; have ck := CodesIn.go ck g6)
        | (go_at_call 26; (first | (with_reducible refine (HNM.out _ (HR.out.grown (CodesIn.gr ck))).mono ?_) | (with_reducible refine (HNM.out _ (HR.out.grown (CodesIn.gr (CodesIn.go ck (World.grownBy_alloc _ _ none))))).mono ?_)); rintro e w7 ⟨rfl, g7⟩; have hold := ck; have ck := (by first | exact CodesIn.go hold g7 | exact CodesIn.go (CodesIn.go hold (World.grownBy_alloc _ _ none)) g7))
        | (go_at_call 27; (first | (have q := HTG.out (w7.alloc (.cells #[.string t] 9)) (.slice (some ⟨w7.heap.size, 0, none⟩) 1 1) (strs_new w7 [t] 9 1 rfl); with_reducible refine q.mono ?_) | (have q := HTG.out w7 (.slice (some ⟨w6.heap.size, 0, none⟩) 1 1) (strs_grow17 (strs_new w6 [t] 9 1 rfl) g7); with_reducible refine q.mono ?_)); rintro e w8 ⟨rfl, g8⟩; have hold := ck; have ck := (by first | exact CodesIn.go hold g8 | exact CodesIn.go (CodesIn.go hold (World.grownBy_alloc _ _ none)) g8)))
      all_goals
        have HC8 := Lib.hid ck
        clear ck hold
        by_cases he : er = 0
        · have z1 : (er != 0) = false := by simp [he]
          have z2 : (er == 0) = true := by simp [he]
          have hd := HDC.out.1 he
          have hz := HDC.out.2 he
          have hDD := fun w' => edecode_any en (by omega) w'
          rw [hd.1, hd.2] at hDD
          unfold EntS.val at hDD
          simp only at hDD
          have HDD := Lib.hid hDD
          have z3 : ((en.size : Int) == 53) = true := by simp; omega
          have o1 : (o.toList == o.toList) = true := by simp
          have o2 : (r.toList == r.toList) = true := by simp
          have o3 : (p.toList == p.toList) = true := by simp
          clear hd hz hDD he
          go_wp2_with fail
          refine (HDD.out _).mono ?_
          rintro e w9 ⟨rfl, g9⟩
          have HC9 := Lib.hid ((HC8.out.go g9).go (World.grownBy_alloc w9 (.cells #[.int .u64 v, .string o, .string r, .int .i64 z, .string p] 52) none))
          obtain ⟨y0, y1, y2, y3, y4, y5, y6, y7, y8, y9, y10⟩ := HC9.out.cells
          obtain ⟨k0, k1, k2, k3, k4⟩ := cells5 (heap_alloc_at w9 (.cells #[.int .u64 v, .string o, .string r, .int .i64 z, .string p] 52) _ rfl)
          clear g9
          go_wp2_with fail
          go_ret
          exact ⟨rfl, HC9.out.gr⟩
        · have z1 : (er != 0) = true := by simp [he]
          have z2 : (er == 0) = false := by simp [he]
          clear he
          go_wp2_with fail
          go_ret
          exact ⟨rfl, HC8.out.gr⟩
theorem entryCodes_ints (a : Int) (ha : 0 ≤ a ∧ a ≤ 18446744073709551615) (L : List ByteArray) (hL : L.length = 4) (hsz : ∀ s ∈ L, s.size ≤ maxLen) (z : Int) (w : World) (hr : ShaReady w) :
    Calls Tryd.prog 4 #[.int .u64 a, .agg (L.map Value.string).toArray, .int .i64 z] w fun e w' => e = .returned (.bool true) ∧ Below w.heap.size w w' := by
  obtain ⟨v, rfl⟩ := Int.eq_ofNat_of_zero_le ha.1
  exact (entryCodes_walk v (by omega) L hL hsz z w hr).mono fun _ _ h => ⟨h.1, below_grownBy h.2⟩
end Go.Proofs.YtgaenpbdfelhhaaDoor
