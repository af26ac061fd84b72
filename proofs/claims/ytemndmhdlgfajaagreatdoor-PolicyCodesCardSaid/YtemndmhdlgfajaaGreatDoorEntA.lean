/- The walks of an entry's Encode, Value, Name, Next. -/
import Derived.Test.YtemndmhdlgfajaaGreatDoorPolicyCodesB2
namespace Go.Proofs.YtemndmhdlgfajaaGreatDoor
open Go.RowKit
attribute [local irreducible] shaL

structure EntS.small (x : EntS) : Prop where
  v : x.v ≤ 18446744073709551615
  o : x.o.size ≤ 100000
  r : x.r.size ≤ 100000
  p : x.p.size ≤ 100000
def EntS.val (x : EntS) : Value := .agg #[.int .u64 x.v, .string x.o, .string x.r, .int .i64 x.h, .string x.p]
def EntS.cells (x : EntS) : List Value := [.int .u64 x.v, .string x.o, .string x.r, .int .i64 x.h, .string x.p]
theorem cells5 {w : World} {b : Nat} {t : TypeId} {a0 a1 a2 a3 a4 : Value} (h : w.heap[b]? = some (.cells #[a0, a1, a2, a3, a4] t (0, 0))) :
    w.cell? ⟨b, 0, none⟩ = some a0 ∧ w.cell? ⟨b, 1, none⟩ = some a1 ∧ w.cell? ⟨b, 2, none⟩ = some a2 ∧ w.cell? ⟨b, 3, none⟩ = some a3 ∧ w.cell? ⟨b, 4, none⟩ = some a4 := by
  refine ⟨?_, ?_, ?_, ?_, ?_⟩ <;> rw [cell_of h] <;> rfl
set_option maxRecDepth 100000 in
set_option maxHeartbeats 1600000 in
theorem eencode_any (x : EntS) (hx : x.small) (w : World) :
    Calls Tryz.prog 35 #[x.val] w fun e w' => e = .returned (.tuple #[.string x.enc, .int .i64 x.err]) ∧ w.grownBy w' none := by
  obtain ⟨v, o, r, h, p⟩ := x
  obtain ⟨hv, ho, hr, hp⟩ := hx
  have hv : v ≤ 18446744073709551615 := hv
  have ho : o.size ≤ 100000 := ho
  have hr : r.size ≤ 100000 := hr
  have hp : p.size ≤ 100000 := hp
  unfold EntS.val
  simp only
  have hb0 := heap_alloc_at w (.cells #[.int .u64 v, .string o, .string r, .int .i64 h, .string p] 34) _ rfl
  have hg0 : w.grownBy (w.alloc (.cells #[.int .u64 v, .string o, .string r, .int .i64 h, .string p] 34)) none := World.grownBy_alloc _ _ _
  obtain ⟨W0, hW0⟩ : ∃ W0, w.alloc (.cells #[.int .u64 v, .string o, .string r, .int .i64 h, .string p] 34) = W0 := ⟨_, rfl⟩
  rw [hW0] at hb0 hg0
  obtain ⟨x0, x1, x2, x3, x4⟩ := cells5 hb0
  have HB0 := Lib.hid hb0
  have HG0 := Lib.hid hg0
  have HW0 := Lib.hid hW0
  have HPE := Lib.hid (fun w' => pencode_any o r h ho hr w')
  clear hb0 hg0 hW0
  by_cases hvv : v < 1 ∨ 4294967295 < v
  · obtain ⟨e1, e2⟩ := EntS.not_ver (x := ⟨v, o, r, h, p⟩) hvv
    rw [e1, e2]
    clear e1 e2 x1 x2 x3 x4 HPE
    by_cases h1 : v < 1
    · have q1 : (v : Int) < 1 := by omega
      clear hvv h1
      go_enter Tryz.func35, Tryz.ntmps35
      go_wp2_with (rw [HW0.out])
      go_returns
      exact ⟨rfl, HG0.out⟩
    · have q1 : ¬ (v : Int) < 1 := by omega
      have q2 : (4294967295 : Int) < (v : Int) := by omega
      clear hvv h1
      go_enter Tryz.func35, Tryz.ntmps35
      go_wp2_with (rw [HW0.out])
      go_returns
      exact ⟨rfl, HG0.out⟩
  · have q1 : ¬ (v : Int) < 1 := by omega
    have q2 : ¬ (4294967295 : Int) < (v : Int) := by omega
    have q3 : ¬ (v : Int) > 4294967295 := by omega
    by_cases hk : pubOk o r h
    · have hpe := HPE.out
      unfold pubEnc pubErr at hpe
      rw [if_pos hk, if_pos hk] at hpe
      have HPE2 := Lib.hid hpe
      have HA := Lib.hid (entW_ans ⟨v, o, r, h, p⟩ (by show 1 ≤ v ∧ v ≤ 4294967295; omega) hk)
      have hkl := pubB_len hk
      clear HPE hpe
      obtain ⟨K, hK⟩ : ∃ K, str (pubB o r h) = K := ⟨_, rfl⟩
      have hKs : K.size = 33 := by rw [← hK, str_size, hkl]
      rw [hK] at HPE2 HA
      have HA : Hid ((entW v K p).ans = (⟨v, o, r, h, p⟩ : EntS).enc ∧ (entW v K p).err = (⟨v, o, r, h, p⟩ : EntS).err) := HA
      clear hK hkl hk hvv
      go_enter Tryz.func35, Tryz.ntmps35
      go_wp2_with (rw [HW0.out])
      refine (HPE2.out _).mono ?_
      rintro e w1 ⟨rfl, g1⟩
      have hb1 := g1.heap HB0.out (by simp)
      have hlt1 := g1.size
      have HG1 := Lib.hid (grownBy_trans HG0.out g1)
      have hltB : w.heap.size < w1.heap.size := Nat.lt_of_lt_of_le (Array.getElem?_eq_some_iff.1 HB0.out).1 hlt1
      clear g1 x0 x1 x2 x3 x4 HB0 hlt1
      have hWB : WrAt (w1.alloc (.cells #[.pointer none, .int .i64 0, .int .i64 0] 90)) w1.heap.size ⟨[], 0⟩ := ⟨.pointer none, heap_alloc_at w1 _ _ rfl, rfl⟩
      have hg1 : w1.grownBy (w1.alloc (.cells #[.pointer none, .int .i64 0, .int .i64 0] 90)) none := World.grownBy_alloc _ _ _
      have hb2 := hg1.heap hb1 (by simp)
      obtain ⟨XB, hXB⟩ : ∃ XB, w.heap.size = XB := ⟨_, rfl⟩
      obtain ⟨WB, hWBn⟩ : ∃ WB, w1.heap.size = WB := ⟨_, rfl⟩
      obtain ⟨W1, hW1⟩ : ∃ W1, w1.alloc (.cells #[.pointer none, .int .i64 0, .int .i64 0] 90) = W1 := ⟨_, rfl⟩
      rw [hW1] at hWB hg1 hb2
      rw [hWBn] at hWB hltB
      rw [hXB] at hb2 hltB ⊢
      have HLT := Lib.hid hltB
      have HX := Lib.hid hXB
      have HG2 := Lib.hid (grownBy_trans HG1.out hg1)
      have HWBn := Lib.hid hWBn
      have HW1 := Lib.hid hW1
      have HWR := Lib.hid hWB
      obtain ⟨y0, _, _, _, y4⟩ := cells5 hb2
      have hne2 : ∀ (w' w'' : World) (o : Nat) (u : Value), w'.grownBy w'' (some WB) → w'.cell? ⟨XB, o, none⟩ = some u → w''.cell? ⟨XB, o, none⟩ = some u := fun w' w'' o u g h => g.cell h (fun e => by have := HLT.out; simp at e; omega)
      have HNE := Lib.hid hne2
      have hnew : ∀ g, some WB = some g → w.heap.size ≤ g := fun g e => by cases e; have := HLT.out; have := HX.out; omega
      have HNEW := Lib.hid hnew
      have t0 : total (⟨[], 0⟩ : WSt).ts = 0 := rfl
      have t1 := total_num (⟨[], 0⟩ : WSt) v 4
      have t2 := total_fixed ((⟨[], 0⟩ : WSt).num v 4) K 33
      have t3 := entW_total v K p
      have HF1 := Lib.hid (fun (w' : World) (q : WrAt w' WB ⟨[], 0⟩) => wr_numS v hv 4 q (by show 0 ≤ _; omega))
      have HF2 := Lib.hid (fun (w' : World) (q : WrAt w' WB ((⟨[], 0⟩ : WSt).num v 4)) => wr_fixedS K 33 q (by omega))
      have hF3 := fun (w' : World) (q : WrAt w' WB (((⟨[], 0⟩ : WSt).num v 4).fixed K 33)) => wr_fixedS p 16 q (by omega)
      have hBY := fun (w' : World) (q : WrAt w' WB (entW v K p)) => wr_bytesS q (by omega)
      have hpw : (((⟨[], 0⟩ : WSt).num v 4).fixed K 33).fixed p 16 = entW v K p := rfl
      rw [hpw] at hF3
      have HF3 := Lib.hid hF3
      rw [HA.out.1, HA.out.2] at hBY
      have HBY := Lib.hid hBY
      clear hWB hg1 hb1 hb2 hXB hWBn hW1 hltB hne2 hnew t0 t1 t2 t3 hF3 hBY hpw hv ho hr hp hKs HPE2
      go_wp2_with (rw [HW1.out, HWBn.out])
      have hdw : WrAt W1.drew WB ⟨[], 0⟩ := HWR.out.grown (grownBy_drew (World.grownBy.refl _ _))
      go_region_held3 (fun w' => w'.cell? ⟨XB, 0, none⟩ = some (.int .u64 v) ∧ w'.cell? ⟨XB, 4, none⟩ = some (.string p)) (first | exact ck | exact ⟨y0, y4⟩)
        (first
        | (go_at_call 85; (with_reducible refine (HF1.out _ hdw).mono ?_); rintro e w3 ⟨rfl, hw3, g3⟩; have ck := And.intro (HNE.out _ _ _ _ g3 y0) (HNE.out _ _ _ _ g3 y4))
        | (go_at_call 86; (with_reducible refine (HF2.out _ hw3).mono ?_); rintro e w4 ⟨rfl, hw4, g4⟩; have ck := And.intro (HNE.out _ _ _ _ g4 ck.1) (HNE.out _ _ _ _ g4 ck.2))
        | (go_at_call 86; (with_reducible refine (HF3.out _ hw4).mono ?_); rintro e w5 ⟨rfl, hw5, g5⟩; have ck := And.intro (HNE.out _ _ _ _ g5 ck.1) (HNE.out _ _ _ _ g5 ck.2))
        | (go_at_call 39; (with_reducible refine (HBY.out _ hw5).mono ?_); rintro e w6 ⟨rfl, g6⟩; have ck := And.intro (g6.cell ck.1 (by simp)) (g6.cell ck.2 (by simp))))
      have HG6 := Lib.hid (grownBy_trans (grown_row (grown_row (grown_row (grownBy_drew HG2.out) g3 HNEW.out) g4 HNEW.out) g5 HNEW.out) g6)
      clear ck g3 g4 g5 g6 hw3 hw4 hw5
      go_wp2_with fail
      go_returns
      exact ⟨rfl, HG6.out⟩
    · obtain ⟨e1, e2⟩ := EntS.not_pub (x := ⟨v, o, r, h, p⟩) (by show 1 ≤ v ∧ v ≤ 4294967295; omega) hk
      rw [e1, e2]
      have hpe := HPE.out
      unfold pubEnc pubErr at hpe
      rw [if_neg hk, if_neg hk] at hpe
      have HPE2 := Lib.hid hpe
      clear HPE hpe hk hvv e1 e2
      go_enter Tryz.func35, Tryz.ntmps35
      go_wp2_with (rw [HW0.out])
      refine (HPE2.out _).mono ?_
      rintro e w1 ⟨rfl, g1⟩
      have HG1 := Lib.hid (grownBy_trans HG0.out g1)
      clear g1 x0 x1 x2 x3 x4 HB0
      go_wp2_with fail
      go_returns
      exact ⟨rfl, HG1.out⟩

set_option maxRecDepth 100000 in
set_option maxHeartbeats 1600000 in
theorem evalue_any (x : EntS) (hx : x.small) (w : World) (hr : ShaReady w) :
    Calls Tryz.prog 29 #[x.val] w fun e w' => e = .returned (.string x.value) ∧ w.grownBy w' none := by
  have HEN := Lib.hid (fun w' => eencode_any x hx w')
  have hb0 := heap_alloc_at w (.cells #[.int .u64 x.v, .string x.o, .string x.r, .int .i64 x.h, .string x.p] 34) _ rfl
  have hg0 : w.grownBy (w.alloc (.cells #[.int .u64 x.v, .string x.o, .string x.r, .int .i64 x.h, .string x.p] 34)) none := World.grownBy_alloc _ _ _
  obtain ⟨W0, hW0⟩ : ∃ W0, w.alloc (.cells #[.int .u64 x.v, .string x.o, .string x.r, .int .i64 x.h, .string x.p] 34) = W0 := ⟨_, rfl⟩
  rw [hW0] at hb0 hg0
  obtain ⟨x0, x1, x2, x3, x4⟩ := cells5 hb0
  have HG0 := Lib.hid hg0
  have HW0 := Lib.hid hW0
  have HR := Lib.hid hr
  clear hb0 hg0 hW0 hr
  unfold EntS.val at HEN ⊢
  by_cases he : x.err = 0
  · have h1 : x.enc = str x.bytes := by unfold EntS.enc; rw [if_pos he]
    have h2 : x.value = tagS 12 [str x.bytes] := by unfold EntS.value; rw [if_pos he]
    have hl : (str x.bytes).size ≤ 53 := by rw [str_size, EntS.len he]; exact Nat.le_refl _
    rw [h1, he] at HEN
    rw [h2]
    generalize str x.bytes = z at HEN hl ⊢
    have HL := Lib.hid hl
    clear h1 h2 he hl hx
    go_enter Tryz.func29, Tryz.ntmps29
    go_wp2_with (rw [HW0.out])
    refine (HEN.out _).mono ?_
    rintro e w1 ⟨rfl, g1⟩
    have HG1 := Lib.hid (grownBy_trans HG0.out g1)
    clear g1 x0 x1 x2 x3 x4
    have HT := Lib.hid (tagged_new w1 12 [z] [.string z] 1 12 rfl rfl rfl (HR.out.grown HG1.out) (by simp) (by intro s hs; have := HL.out; simp at hs; subst hs; omega))
    go_wp2_with fail
    refine HT.out.mono ?_
    rintro e w2 ⟨rfl, g2⟩
    have HG2 := Lib.hid (grownBy_trans HG1.out g2)
    clear g2
    go_wp2_with fail
    go_ret
    exact ⟨rfl, HG2.out⟩
  · have h1 : x.enc = ⟨#[]⟩ := by unfold EntS.enc; rw [if_neg he]
    have h2 : x.value = ⟨#[]⟩ := by unfold EntS.value; rw [if_neg he]
    rw [h1] at HEN
    rw [h2]
    generalize x.err = z at HEN he
    have hz : (z != 0) = true := by simp [he]
    have hz2 : (z == 0) = false := by simp [he]
    clear h1 h2 he hx
    go_enter Tryz.func29, Tryz.ntmps29
    go_wp2_with (rw [HW0.out])
    refine (HEN.out _).mono ?_
    rintro e w1 ⟨rfl, g1⟩
    have HG1 := Lib.hid (grownBy_trans HG0.out g1)
    clear g1 x0 x1 x2 x3 x4
    go_wp2_with fail
    go_ret
    exact ⟨rfl, HG1.out⟩

end Go.Proofs.YtemndmhdlgfajaaGreatDoor
