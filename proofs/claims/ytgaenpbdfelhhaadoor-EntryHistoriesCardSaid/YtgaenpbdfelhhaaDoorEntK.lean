/- The walks of layer 17's laws' key and speaks. -/
import Derived.Test.YtgaenpbdfelhhaaDoorEntryHistoriesB3
import Derived.Test.YtgaenpbdfelhhaaDoorEntB
import Derived.Test.YtgaenpbdfelhhaaDoorEntryHistoriesB2
namespace Go.Proofs.YtgaenpbdfelhhaaDoor
open Go.RowKit
attribute [local irreducible] shaL

def sameS (c : UInt8) : ByteArray := str (List.replicate 16 c)
theorem sameS_size (c : UInt8) : (sameS c).size = 16 := rfl
theorem results_key17 {n : Nat} {v0 v1 v2 : Value} {tmps : Array Value} {w : World} (h6 : tmps[2]? = some (.pointer (some ⟨n, 0, none⟩))) (hb : w.heap[n]? = some (.cells #[v0, v1, v2] 50 (0, 0))) :
    (results Tryd.f29 tmps).run Tryd.prog w = .ok (.agg #[v0, v1, v2]) w := by
  obtain ⟨c0, c1, c2⟩ := cells3 hb
  simp [results, Tryd.results29, go_sem, h6, c0, c1, c2]
set_option maxRecDepth 100000 in
set_option maxHeartbeats 1600000 in
theorem key17_any (c : UInt8) (w : World) :
    Calls Tryd.prog 29 #[.int .u8 c.toNat] w fun e w' => e = .returned (pubZ (sameS c) noughtsS 2) ∧ w.grownBy w' none := by
  obtain ⟨n, hn⟩ : ∃ n, w.heap.size = n := ⟨_, rfl⟩
  have hr0 := heap_alloc_at w (.cells #[.string ⟨#[]⟩, .string ⟨#[]⟩, .int .i64 0] 50) n hn
  have hg0 : w.grownBy (w.alloc (.cells #[.string ⟨#[]⟩, .string ⟨#[]⟩, .int .i64 0] 50)) none := World.grownBy_alloc _ _ _
  obtain ⟨W0, hW0⟩ : ∃ W0, w.alloc (.cells #[.string ⟨#[]⟩, .string ⟨#[]⟩, .int .i64 0] 50) = W0 := ⟨_, rfl⟩
  rw [hW0] at hr0 hg0
  have HR0 := Lib.hid (And.intro hr0 hg0)
  have HW0 := Lib.hid (And.intro hW0 hn)
  clear hr0 hg0 hW0 hn
  go_enter Tryd.func29, Tryd.ntmps29
  go_wp2_with (rw [HW0.out.1, HW0.out.2])
  go_loopw [3, 4] (fun sv iv wr => ∃ (k : Nat) (S : ByteArray), k ≤ 16 ∧ iv = .int .i64 k ∧ sv = .string S ∧ S.size = k ∧ Hid (S.data.toList = List.replicate k c) ∧ Hid (wr.heap[n]? = some (.cells #[.string ⟨#[]⟩, .string ⟨#[]⟩, .int .i64 0] 50 (0, 0)) ∧ w.grownBy wr none)) (fun _ iv _ => 16 - (intOf iv).toNat)
  case atStart => exact ⟨0, ⟨#[]⟩, by decide, rfl, rfl, rfl, rfl, HR0.out⟩
  case round =>
    obtain ⟨k, S, hk, rfl, rfl, hS, HL, HI⟩ := hrel
    by_cases hlt : k < 16
    · have k1 : (k : Int) < 16 := by omega
      have hcv : (convert 72 9 (.slice (some ⟨wr.heap.size, 0, none⟩) 1 1)).run Tryd.prog (wr.alloc (.cells #[.int .u8 c.toNat] 5)) = .ok (.string (str [c])) (wr.alloc (.cells #[.int .u8 c.toNat] 5)) := row_string_w wr [Value.int .u8 c.toNat] [c] rfl
      have hz1 : (str [c]).size = 1 := rfl
      have hzl : (str [c]).data.toList = [c] := rfl
      generalize str [c] = z at hcv hz1 hzl
      have HZ := Lib.hid hzl
      have q2 : (9223372036854775807 < S.size + z.size) = False := eq_false (by omega)
      have HSS := Lib.hid hS
      have HZ1 := Lib.hid hz1
      have HHI : Hid ((wr.alloc (.cells #[.int .u8 c.toNat] 5)).heap[n]? = some (.cells #[.string ⟨#[]⟩, .string ⟨#[]⟩, .int .i64 0] 50 (0, 0)) ∧ w.grownBy (wr.alloc (.cells #[.int .u8 c.toNat] 5)) none) := ⟨(World.grownBy_alloc wr _ none).heap HI.out.1 (by simp), grownBy_alloc' HI.out.2 _⟩
      clear hS hz1 hzl
      go_wp2_with fail
      go_roundw
      case rel => exact ⟨k + 1, S ++ z, by omega, by go_num, rfl, by rw [ByteArray.size_append, HSS.out, HZ1.out], by show _ = _; rw [ByteArray.data_append, Array.toList_append, HL.out, HZ.out, List.replicate_succ'], HHI.out⟩
      case measure => simp [intOf]; omega
    · have hk16 : k = 16 := by omega
      subst hk16
      have hSe : S = sameS c := by
        apply ByteArray.ext
        apply Array.toList_inj.1
        rw [HL.out]
        rfl
      have HSE := Lib.hid hSe
      obtain ⟨u0, u1, u2⟩ := cells3 HI.out.1
      have uf : ∀ j, wr.frozen? ⟨n, j, none⟩ = false := fun j => free_of HI.out.1 j
      have k1 : ¬ ((16 : Nat) : Int) < 16 := by omega
      have HNN := HW0.out.2
      have HNH := Lib.hid HNN
      clear hSe HNN hlt hk hS
      go_wp2_with fail
      refine bodyPost_ret (results_key17 (n := n) (v0 := .string S) (v1 := .string ⟨#[0, 0, 0, 0, 0, 0, 0, 0, 0, 0, 0, 0, 0, 0, 0, 0]⟩) (v2 := .int .i64 2) rfl (heap3 HI.out.1 _ _ _)) rfl ?_
      refine ⟨by rw [HSE.out]; rfl, grown_row HI.out.2 (grown3 wr n _ _ _) (fun x e => by have e2 : n = x := Option.some.inj e; have := HNH.out; omega)⟩

def entA : EntS := ⟨1, sameS 97, noughtsS, 2, noughtsS⟩
def entB : EntS := ⟨2, sameS 98, noughtsS, 2, entA.value⟩
theorem fit_same (v : Nat) (c : UInt8) (p : ByteArray) (hv : 1 ≤ v ∧ v ≤ 4294967295) (hp : p.size = 16) (h : Int) (hh : 0 ≤ h ∧ h ≤ 6) : (⟨v, sameS c, noughtsS, h, p⟩ : EntS).err = 0 := EntS.of_fit ⟨hv, ⟨hh, rfl, rfl⟩, hp⟩
theorem entA_err : entA.err = 0 := fit_same 1 97 noughtsS ⟨by decide, by decide⟩ rfl 2 ⟨by decide, by decide⟩
theorem entB_err : entB.err = 0 := fit_same 2 98 _ ⟨by decide, by decide⟩ (EntS.value_size entA_err) 2 ⟨by decide, by decide⟩
theorem small_same (v : Nat) (c : UInt8) (p : ByteArray) (hv : v ≤ 4294967295) (hp : p.size ≤ 16) (h : Int) : (⟨v, sameS c, noughtsS, h, p⟩ : EntS).small := ⟨by show v ≤ _; omega, by show 16 ≤ _; omega, by show 16 ≤ _; omega, by show p.size ≤ _; omega⟩
theorem entAB_next : entA.next entB = 0 := by
  unfold EntS.next
  rw [if_neg (by decide), if_neg]
  intro h
  rcases h with h | h
  · exact h entA_err
  · exact h rfl
theorem entAB_hist : histE [entA, entB] = 0 := by
  show (if (1 : Nat) ≠ 1 then (13 : Int) else if noughtsS ≠ noughtsS then 15 else (if entA.next entB ≠ 0 then entA.next entB else 0)) = 0
  rw [entAB_next]
  simp
theorem entsAt_two (w : World) (x y : EntS) : EntsAt (w.alloc (.cells #[.int .u64 x.v, .string x.o, .string x.r, .int .i64 x.h, .string x.p, .int .u64 y.v, .string y.o, .string y.r, .int .i64 y.h, .string y.p] 52)) (.slice (some ⟨w.heap.size, 0, none⟩) 2 2) [x, y] := by
  have hb := heap_alloc_at w (.cells #[.int .u64 x.v, .string x.o, .string x.r, .int .i64 x.h, .string x.p, .int .u64 y.v, .string y.o, .string y.r, .int .i64 y.h, .string y.p] 52) _ rfl
  refine ⟨_, 2, rfl, fun i hi => ⟨_, 0, rfl, ?_⟩⟩
  have hi2 : i < 2 := hi
  rcases (show i = 0 ∨ i = 1 by omega) with rfl | rfl
  · refine ⟨?_, ?_, ?_, ?_, ?_⟩ <;> rw [cell_of hb] <;> rfl
  · refine ⟨?_, ?_, ?_, ?_, ?_⟩ <;> rw [cell_of hb] <;> rfl
/-- the first entry lies in its block, the world has grown -/
def AIn (w : World) (b : Nat) (vs : Array Value) (w' : World) : Prop := w'.heap[b]? = some (.cells vs 52 (0, 0)) ∧ w.grownBy w' none
theorem AIn.gr {w a : World} {b : Nat} {vs : Array Value} (h : AIn w b vs a) : w.grownBy a none := h.2
theorem AIn.go {w a c : World} {b : Nat} {vs : Array Value} (h : AIn w b vs a) (g : a.grownBy c none) : AIn w b vs c := ⟨g.heap h.1 (by simp), grownBy_trans h.2 g⟩
theorem AIn.drew {w a : World} {b : Nat} {vs : Array Value} (h : AIn w b vs a) : AIn w b vs a.drew := ⟨h.1, grownBy_drew h.2⟩
theorem AIn.alloc {w a : World} {b : Nat} {vs : Array Value} (h : AIn w b vs a) (o : Obj) : AIn w b vs (a.alloc o) := h.go (World.grownBy_alloc _ _ _)
theorem AIn.put {w a : World} {b n : Nat} {vs : Array Value} (h : AIn w b vs a) (hn : n ≠ b) (hw : w.heap.size ≤ n) (v0 v1 v2 v3 v4 : Value) : AIn w b vs (((((a.setCell ⟨n, 0, none⟩ v0).setCell ⟨n, 1, none⟩ v1).setCell ⟨n, 2, none⟩ v2).setCell ⟨n, 3, none⟩ v3).setCell ⟨n, 4, none⟩ v4) :=
  ⟨(grownBy_setCell (grownBy_setCell (grownBy_setCell (grownBy_setCell (grownBy_setCell (World.grownBy.refl a _) 0 _) 1 _) 2 _) 3 _) 4 _ : a.grownBy _ (some n)).heap h.1 (fun e => hn (Option.some.inj e)), grown_row h.2 (grownBy_setCell (grownBy_setCell (grownBy_setCell (grownBy_setCell (grownBy_setCell (World.grownBy.refl a _) 0 _) 1 _) 2 _) 3 _) 4 _) (fun g e => by cases e; exact hw)⟩
theorem AIn.lt {w a : World} {b : Nat} {vs : Array Value} (h : AIn w b vs a) : b < a.heap.size := (Array.getElem?_eq_some_iff.1 h.1).1
/-- both entries lie there -/
def BIn (w : World) (b c : Nat) (vs us : Array Value) (w' : World) : Prop := AIn w b vs w' ∧ w'.heap[c]? = some (.cells us 52 (0, 0))
theorem BIn.mk' {w a : World} {b c : Nat} {vs us : Array Value} (h : AIn w b vs a) (k : a.heap[c]? = some (.cells us 52 (0, 0))) : BIn w b c vs us a := ⟨h, k⟩
theorem BIn.one {w a : World} {b : Nat} {vs : Array Value} (h : AIn w b vs a) (us : Array Value) : BIn w b a.heap.size vs us (a.alloc (.cells us 52)) := ⟨h.alloc _, heap_alloc_at a _ _ rfl⟩
theorem five {w w' : World} {b : Nat} {a0 a1 a2 a3 a4 : Value} (h : AIn w b #[a0, a1, a2, a3, a4] w') : AIn w b #[a0, a1, a2, a3, a4] w' ∧ w'.cell? ⟨b, 0, none⟩ = some a0 ∧ w'.cell? ⟨b, 1, none⟩ = some a1 ∧ w'.cell? ⟨b, 2, none⟩ = some a2 ∧ w'.cell? ⟨b, 3, none⟩ = some a3 ∧ w'.cell? ⟨b, 4, none⟩ = some a4 := ⟨h, cells5 h.1⟩
set_option maxRecDepth 100000 in
set_option maxHeartbeats 800000 in
theorem ent_speaks (w : World) (hr : ShaReady w) : Calls Tryd.prog 21 #[] w fun e w' => e = .returned (.bool true) ∧ w.grownBy w' none := by
  have HR := Lib.hid hr
  have HKA : Hid (∀ w' : World, Calls Tryd.prog 29 #[.int .u8 97] w' fun e w'' => e = .returned (pubZ (sameS 97) noughtsS 2) ∧ w'.grownBy w'' none) := fun w' => key17_any 97 w'
  have HKB : Hid (∀ w' : World, Calls Tryd.prog 29 #[.int .u8 98] w' fun e w'' => e = .returned (pubZ (sameS 98) noughtsS 2) ∧ w'.grownBy w'' none) := fun w' => key17_any 98 w'
  have hvz : entA.value.size = 16 := EntS.value_size entA_err
  have hV := fun w' q => evalue_any entA (small_same 1 97 noughtsS (by decide) (by decide) 2) w' q
  have hN := fun w' q => enext_any entA entB (small_same 1 97 noughtsS (by decide) (by decide) 2) (small_same 2 98 _ (by decide) (by rw [hvz]; decide) 2) w' q
  rw [entAB_next] at hN
  have hH := fun (w' : World) q => ehistory_any _ [entA, entB] (by
    intro x hx
    simp at hx
    rcases hx with rfl | rfl
    · exact small_same 1 97 noughtsS (by decide) (by decide) 2
    · exact small_same 2 98 _ (by decide) (by rw [hvz]; decide) 2) (by decide) _ q (entsAt_two w' entA entB)
  rw [entAB_hist] at hH
  have HNA := Lib.hid (fun w' q => ename_any ⟨#[97]⟩ (by decide) w' q)
  have hnz : (tagS 11 [⟨#[97]⟩]).size = 16 := tagS_size _ _
  generalize tagS 11 [⟨#[97]⟩] = NA at HNA hnz
  unfold pubZ at HKA HKB
  unfold entA at hV hN hH
  unfold EntS.val at hV hN
  unfold entB at hN hH
  obtain ⟨VA, hVA⟩ : ∃ VA, entA.value = VA := ⟨_, rfl⟩
  have hVA' : (⟨1, sameS 97, noughtsS, 2, noughtsS⟩ : EntS).value = VA := hVA
  rw [hVA] at hN hH hvz
  rw [hVA'] at hV
  generalize sameS 97 = SA at HKA hV hN hH
  generalize sameS 98 = SB at HKB hN hH
  have HV : Hid (∀ (w' : World), ShaReady w' → Calls Tryd.prog 24 #[.agg #[.int .u64 1, .string SA, .string ⟨#[0, 0, 0, 0, 0, 0, 0, 0, 0, 0, 0, 0, 0, 0, 0, 0]⟩, .int .i64 2, .string ⟨#[0, 0, 0, 0, 0, 0, 0, 0, 0, 0, 0, 0, 0, 0, 0, 0]⟩]] w' fun e w'' => e = .returned (.string VA) ∧ w'.grownBy w'' none) := hV
  have HN : Hid (∀ (w' : World), ShaReady w' → Calls Tryd.prog 39 #[.agg #[.int .u64 1, .string SA, .string ⟨#[0, 0, 0, 0, 0, 0, 0, 0, 0, 0, 0, 0, 0, 0, 0, 0]⟩, .int .i64 2, .string ⟨#[0, 0, 0, 0, 0, 0, 0, 0, 0, 0, 0, 0, 0, 0, 0, 0]⟩], .agg #[.int .u64 2, .string SB, .string ⟨#[0, 0, 0, 0, 0, 0, 0, 0, 0, 0, 0, 0, 0, 0, 0, 0]⟩, .int .i64 2, .string VA]] w' fun e w'' => e = .returned (.int .i64 0) ∧ w'.grownBy w'' none) := hN
  have HH : Hid (∀ (w' : World), ShaReady (w'.alloc (.cells #[.int .u64 1, .string SA, .string ⟨#[0, 0, 0, 0, 0, 0, 0, 0, 0, 0, 0, 0, 0, 0, 0, 0]⟩, .int .i64 2, .string ⟨#[0, 0, 0, 0, 0, 0, 0, 0, 0, 0, 0, 0, 0, 0, 0, 0]⟩, .int .u64 2, .string SB, .string ⟨#[0, 0, 0, 0, 0, 0, 0, 0, 0, 0, 0, 0, 0, 0, 0, 0]⟩, .int .i64 2, .string VA] 52)) → Calls Tryd.prog 30 #[.slice (some ⟨w'.heap.size, 0, none⟩) 2 2] (w'.alloc (.cells #[.int .u64 1, .string SA, .string ⟨#[0, 0, 0, 0, 0, 0, 0, 0, 0, 0, 0, 0, 0, 0, 0, 0]⟩, .int .i64 2, .string ⟨#[0, 0, 0, 0, 0, 0, 0, 0, 0, 0, 0, 0, 0, 0, 0, 0]⟩, .int .u64 2, .string SB, .string ⟨#[0, 0, 0, 0, 0, 0, 0, 0, 0, 0, 0, 0, 0, 0, 0, 0]⟩, .int .i64 2, .string VA] 52)) fun e w'' => e = .returned (.int .i64 0) ∧ (w'.alloc (.cells #[.int .u64 1, .string SA, .string ⟨#[0, 0, 0, 0, 0, 0, 0, 0, 0, 0, 0, 0, 0, 0, 0, 0]⟩, .int .i64 2, .string ⟨#[0, 0, 0, 0, 0, 0, 0, 0, 0, 0, 0, 0, 0, 0, 0, 0]⟩, .int .u64 2, .string SB, .string ⟨#[0, 0, 0, 0, 0, 0, 0, 0, 0, 0, 0, 0, 0, 0, 0, 0]⟩, .int .i64 2, .string VA] 52)).grownBy w'' none) := hH
  have HKA2 : Hid (∀ w' : World, Calls Tryd.prog 29 #[.int .u8 97] w' fun e w'' => e = .returned (.agg #[.string SA, .string ⟨#[0, 0, 0, 0, 0, 0, 0, 0, 0, 0, 0, 0, 0, 0, 0, 0]⟩, .int .i64 2]) ∧ w'.grownBy w'' none) := HKA
  have HKB2 : Hid (∀ w' : World, Calls Tryd.prog 29 #[.int .u8 98] w' fun e w'' => e = .returned (.agg #[.string SB, .string ⟨#[0, 0, 0, 0, 0, 0, 0, 0, 0, 0, 0, 0, 0, 0, 0, 0]⟩, .int .i64 2]) ∧ w'.grownBy w'' none) := HKB
  have HVZ := Lib.hid hvz
  clear hV hN hH HKA HKB hVA hVA' hr
  go_enter Tryd.func21, Tryd.ntmps21
  go_wp2_with fail
  refine (HKA2.out _).mono ?_
  rintro e w1 ⟨rfl, g1⟩
  obtain ⟨XB, hXB⟩ : ∃ XB, w1.heap.size = XB := ⟨_, rfl⟩
  have hb2 := heap_alloc_at w1 (.cells #[.int .u64 1, .string SA, .string ⟨#[0, 0, 0, 0, 0, 0, 0, 0, 0, 0, 0, 0, 0, 0, 0, 0]⟩, .int .i64 2, .string ⟨#[0, 0, 0, 0, 0, 0, 0, 0, 0, 0, 0, 0, 0, 0, 0, 0]⟩] 52) XB hXB
  have hg2 : w1.grownBy (w1.alloc (.cells #[.int .u64 1, .string SA, .string ⟨#[0, 0, 0, 0, 0, 0, 0, 0, 0, 0, 0, 0, 0, 0, 0, 0]⟩, .int .i64 2, .string ⟨#[0, 0, 0, 0, 0, 0, 0, 0, 0, 0, 0, 0, 0, 0, 0, 0]⟩] 52)) none := World.grownBy_alloc _ _ _
  obtain ⟨W2, hW2⟩ : ∃ W2, w1.alloc (.cells #[.int .u64 1, .string SA, .string ⟨#[0, 0, 0, 0, 0, 0, 0, 0, 0, 0, 0, 0, 0, 0, 0, 0]⟩, .int .i64 2, .string ⟨#[0, 0, 0, 0, 0, 0, 0, 0, 0, 0, 0, 0, 0, 0, 0, 0]⟩] 52) = W2 := ⟨_, rfl⟩
  rw [hW2] at hb2 hg2
  obtain ⟨x0, x1, x2, x3, x4⟩ := cells5 hb2
  have HA2 : Hid (AIn w XB #[.int .u64 1, .string SA, .string ⟨#[0, 0, 0, 0, 0, 0, 0, 0, 0, 0, 0, 0, 0, 0, 0, 0]⟩, .int .i64 2, .string ⟨#[0, 0, 0, 0, 0, 0, 0, 0, 0, 0, 0, 0, 0, 0, 0, 0]⟩] W2) := ⟨hb2, grownBy_trans g1 hg2⟩
  have HW2 := Lib.hid (And.intro hW2 hXB)
  clear g1 hb2 hg2 hW2 hXB
  go_upto_region 2 with (rw [HW2.out.1, HW2.out.2])
  go_cut [2] (fun pv wx => ∃ YB, pv = .pointer (some ⟨YB, 0, none⟩) ∧ Hid (BIn w XB YB #[.int .u64 1, .string SA, .string ⟨#[0, 0, 0, 0, 0, 0, 0, 0, 0, 0, 0, 0, 0, 0, 0, 0]⟩, .int .i64 2, .string ⟨#[0, 0, 0, 0, 0, 0, 0, 0, 0, 0, 0, 0, 0, 0, 0, 0]⟩] #[.int .u64 2, .string SB, .string ⟨#[0, 0, 0, 0, 0, 0, 0, 0, 0, 0, 0, 0, 0, 0, 0, 0]⟩, .int .i64 2, .string VA] wx))
  case first =>
    refine wp_region_held_drew (S := (fun w' => AIn w XB #[.int .u64 1, .string SA, .string ⟨#[0, 0, 0, 0, 0, 0, 0, 0, 0, 0, 0, 0, 0, 0, 0, 0]⟩, .int .i64 2, .string ⟨#[0, 0, 0, 0, 0, 0, 0, 0, 0, 0, 0, 0, 0, 0, 0, 0]⟩] w' ∧ w'.cell? ⟨XB, 0, none⟩ = some (.int .u64 1) ∧ w'.cell? ⟨XB, 1, none⟩ = some (.string SA) ∧ w'.cell? ⟨XB, 2, none⟩ = some (.string ⟨#[0, 0, 0, 0, 0, 0, 0, 0, 0, 0, 0, 0, 0, 0, 0, 0]⟩) ∧ w'.cell? ⟨XB, 3, none⟩ = some (.int .i64 2) ∧ w'.cell? ⟨XB, 4, none⟩ = some (.string ⟨#[0, 0, 0, 0, 0, 0, 0, 0, 0, 0, 0, 0, 0, 0, 0, 0]⟩))) (by kernel_rfl) ?hsek (fun hHeld => ?rgek)
    case hsek => exact (five (AIn.drew HA2.out))
    case rgek =>
      refine wpAnyH_take (i := 1) (v := ?vek_0) rfl (by kernel_rfl) (by kernel_rfl) (by kernel_rfl) (fun _ _ _ h => h) (Or.inl ⟨by kernel_rfl, ?hek_0⟩) (by assumption) ?rek_0
      case hek_0 => (intro w0 hSw; (try dsimp only at hSw); go_simp; (try with_reducible rfl))
      try simp only [Act.put, List.setIfInBounds_toArray, List.set_cons_zero, List.set_cons_succ]
      refine wpAnyH_ready (rs := [0, 4]) (by kernel_rfl) (by simp) ?_
      refine AllReadyH.cons rfl (fun K hK => ?aek_2) ?bek_2
      case aek_2 =>
        (go_simp; go_at_call 29; (with_reducible refine (HKB2.out _).mono ?_); rintro e w3 ⟨rfl, g3⟩; have ck := five (AIn.go (And.left hHeld) g3))
        refine hK.out _ _ ?sek_2 (fun hHeld => ?tek_2)
        case sek_2 => (first | with_reducible exact ck | with_reducible exact five (AIn.alloc (And.left hHeld) _) | with_reducible exact five (AIn.alloc (And.left ck) _) | with_reducible exact five (AIn.put (And.left ck) (by omega) (by omega) _ _ _ _ _) | with_reducible exact five (AIn.drew (AIn.alloc HA2.out _)))
        case tek_2 =>
          clear hK K
          try simp only [Act.put, List.setIfInBounds_toArray, List.set_cons_zero, List.set_cons_succ]
          refine wpAnyH_ready (rs := [2, 4]) (by kernel_rfl) (by simp) ?_
          refine AllReadyH.cons rfl (fun K hK => ?aek_3) ?bek_3
          case aek_3 =>
            (go_simp; go_at_call 24; (with_reducible refine (HV.out _ (HR.out.grown (AIn.gr (And.left hHeld)))).mono ?_); rintro e w4 ⟨rfl, g4⟩; have ck := five (AIn.go (And.left hHeld) g4))
            refine hK.out _ _ ?sek_3 (fun hHeld => ?tek_3)
            case sek_3 => (first | with_reducible exact ck | with_reducible exact five (AIn.alloc (And.left hHeld) _) | with_reducible exact five (AIn.alloc (And.left ck) _) | with_reducible exact five (AIn.put (And.left ck) (by omega) (by omega) _ _ _ _ _) | with_reducible exact five (AIn.drew (AIn.alloc HA2.out _)))
            case tek_3 =>
              clear hK K
              try simp only [Act.put, List.setIfInBounds_toArray, List.set_cons_zero, List.set_cons_succ]
              refine wpAnyH_take (i := 3) (v := ?vek_3) rfl (by kernel_rfl) (by kernel_rfl) (by kernel_rfl) (fun _ _ _ h => h) (Or.inl ⟨by kernel_rfl, ?hek_3⟩) (by assumption) ?rek_3
              case hek_3 => (intro w0 hSw; (try dsimp only at hSw); go_simp; (try with_reducible rfl))
              try simp only [Act.put, List.setIfInBounds_toArray, List.set_cons_zero, List.set_cons_succ]
              refine wpAnyH_ready (rs := [4]) (by kernel_rfl) (by simp) ?_
              refine AllReadyH.cons rfl (fun K hK => ?aek_5) ?bek_5
              case aek_5 =>
                go_simp
                refine hK.out _ _ ?sek_5 (fun hHeld => ?tek_5)
                case sek_5 => (first | with_reducible exact ck | with_reducible exact five (AIn.alloc (And.left hHeld) _) | with_reducible exact five (AIn.alloc (And.left ck) _) | with_reducible exact five (AIn.put (And.left ck) (by omega) (by omega) _ _ _ _ _) | with_reducible exact five (AIn.drew (AIn.alloc HA2.out _)))
                case tek_5 =>
                  clear hK K
                  try simp only [Act.put, List.setIfInBounds_toArray, List.set_cons_zero, List.set_cons_succ]
                  refine wpAnyH_ready (rs := [5]) (by kernel_rfl) (by simp) ?_
                  refine AllReadyH.cons rfl (fun K hK => ?aek_6) ?bek_6
                  case aek_6 =>
                    go_simp
                    refine hK.out _ _ ?sek_6 (fun hHeld => ?tek_6)
                    case sek_6 => (first | with_reducible exact ck | with_reducible exact five (AIn.alloc (And.left hHeld) _) | with_reducible exact five (AIn.alloc (And.left ck) _) | with_reducible exact five (AIn.put (And.left ck) (by omega) (by omega) _ _ _ _ _) | with_reducible exact five (AIn.drew (AIn.alloc HA2.out _)))
                    case tek_6 =>
                      clear hK K
                      try simp only [Act.put, List.setIfInBounds_toArray, List.set_cons_zero, List.set_cons_succ]
                      refine wpAnyH_done (by kernel_rfl) ?_ _
                      try dsimp only
                      (go_wp2_with fail; go_meet; (case rel => first | with_reducible exact ⟨_, rfl, Lib.hid (BIn.one (And.left ck) _)⟩ | with_reducible exact ⟨_, rfl, Lib.hid (BIn.mk' (AIn.put (And.left ck) (by omega) (by omega) _ _ _ _ _) (heap5 hq _ _ _ _ _))⟩))
                  case bek_6 =>
                    exact AllReadyH.nil
              case bek_5 =>
                exact AllReadyH.nil
          case bek_3 =>
            refine AllReadyH.cons rfl (fun K hK => ?aek_7) ?bek_7
            case aek_7 =>
              go_simp
              refine hK.out _ _ ?sek_7 (fun hHeld => ?tek_7)
              case sek_7 => (first | with_reducible exact ck | with_reducible exact five (AIn.alloc (And.left hHeld) _) | with_reducible exact five (AIn.alloc (And.left ck) _) | with_reducible exact five (AIn.put (And.left ck) (by omega) (by omega) _ _ _ _ _) | with_reducible exact five (AIn.drew (AIn.alloc HA2.out _)))
              case tek_7 =>
                clear hK K
                try simp only [Act.put, List.setIfInBounds_toArray, List.set_cons_zero, List.set_cons_succ]
                refine wpAnyH_ready (rs := [2]) (by kernel_rfl) (by simp) ?_
                refine AllReadyH.cons rfl (fun K hK => ?aek_8) ?bek_8
                case aek_8 =>
                  (go_simp; go_at_call 24; (with_reducible refine (HV.out _ (HR.out.grown (AIn.gr (And.left hHeld)))).mono ?_); rintro e w4 ⟨rfl, g4⟩; have hn1 : XB < w3.heap.size := AIn.lt (And.left ck); have hn2 : w.heap.size ≤ w3.heap.size := (AIn.gr (And.left ck)).size; have hq := g4.heap (heap_alloc_at w3 (.cells #[.int .u64 0, .string ⟨#[]⟩, .string ⟨#[]⟩, .int .i64 0, .string ⟨#[]⟩] 52) _ rfl) (by simp); obtain ⟨q0, q1, q2, q3, q4⟩ := cells5 hq; have qf := fun j => free_of hq j; have ck := five (AIn.go (And.left hHeld) g4))
                  refine hK.out _ _ ?sek_8 (fun hHeld => ?tek_8)
                  case sek_8 => (first | with_reducible exact ck | with_reducible exact five (AIn.alloc (And.left hHeld) _) | with_reducible exact five (AIn.alloc (And.left ck) _) | with_reducible exact five (AIn.put (And.left ck) (by omega) (by omega) _ _ _ _ _) | with_reducible exact five (AIn.drew (AIn.alloc HA2.out _)))
                  case tek_8 =>
                    clear hK K
                    try simp only [Act.put, List.setIfInBounds_toArray, List.set_cons_zero, List.set_cons_succ]
                    refine wpAnyH_take (i := 3) (v := ?vek_8) rfl (by kernel_rfl) (by kernel_rfl) (by kernel_rfl) (fun _ _ _ h => h) (Or.inl ⟨by kernel_rfl, ?hek_8⟩) (by assumption) ?rek_8
                    case hek_8 => (intro w0 hSw; (try dsimp only at hSw); go_simp; (try with_reducible rfl))
                    try simp only [Act.put, List.setIfInBounds_toArray, List.set_cons_zero, List.set_cons_succ]
                    refine wpAnyH_ready (rs := [5]) (by kernel_rfl) (by simp) ?_
                    refine AllReadyH.cons rfl (fun K hK => ?aek_10) ?bek_10
                    case aek_10 =>
                      go_simp
                      refine hK.out _ _ ?sek_10 (fun hHeld => ?tek_10)
                      case sek_10 => (first | with_reducible exact ck | with_reducible exact five (AIn.alloc (And.left hHeld) _) | with_reducible exact five (AIn.alloc (And.left ck) _) | with_reducible exact five (AIn.put (And.left ck) (by omega) (by omega) _ _ _ _ _) | with_reducible exact five (AIn.drew (AIn.alloc HA2.out _)))
                      case tek_10 =>
                        clear hK K
                        try simp only [Act.put, List.setIfInBounds_toArray, List.set_cons_zero, List.set_cons_succ]
                        refine wpAnyH_done (by kernel_rfl) ?_ _
                        try dsimp only
                        (go_wp2_with fail; go_meet; (case rel => first | with_reducible exact ⟨_, rfl, Lib.hid (BIn.one (And.left ck) _)⟩ | with_reducible exact ⟨_, rfl, Lib.hid (BIn.mk' (AIn.put (And.left ck) (by omega) (by omega) _ _ _ _ _) (heap5 hq _ _ _ _ _))⟩))
                    case bek_10 =>
                      exact AllReadyH.nil
                case bek_8 =>
                  exact AllReadyH.nil
            case bek_7 =>
              exact AllReadyH.nil
      case bek_2 =>
        refine AllReadyH.cons rfl (fun K hK => ?aek_11) ?bek_11
        case aek_11 =>
          go_simp
          refine hK.out _ _ ?sek_11 (fun hHeld => ?tek_11)
          case sek_11 => (first | with_reducible exact ck | with_reducible exact five (AIn.alloc (And.left hHeld) _) | with_reducible exact five (AIn.alloc (And.left ck) _) | with_reducible exact five (AIn.put (And.left ck) (by omega) (by omega) _ _ _ _ _) | with_reducible exact five (AIn.drew (AIn.alloc HA2.out _)))
          case tek_11 =>
            clear hK K
            try simp only [Act.put, List.setIfInBounds_toArray, List.set_cons_zero, List.set_cons_succ]
            refine wpAnyH_ready (rs := [0]) (by kernel_rfl) (by simp) ?_
            refine AllReadyH.cons rfl (fun K hK => ?aek_12) ?bek_12
            case aek_12 =>
              (go_simp; go_at_call 29; (with_reducible refine (HKB2.out _).mono ?_); rintro e w3 ⟨rfl, g3⟩; have hn1 : XB < W2.heap.size := AIn.lt HA2.out; have hn2 : w.heap.size ≤ W2.heap.size := (AIn.gr HA2.out).size; have hq0 := g3.heap (heap_alloc_at W2.drew (.cells #[.int .u64 0, .string ⟨#[]⟩, .string ⟨#[]⟩, .int .i64 0, .string ⟨#[]⟩] 52) W2.heap.size rfl) (by simp); have ck := five (AIn.go (And.left hHeld) g3))
              refine hK.out _ _ ?sek_12 (fun hHeld => ?tek_12)
              case sek_12 => (first | with_reducible exact ck | with_reducible exact five (AIn.alloc (And.left hHeld) _) | with_reducible exact five (AIn.alloc (And.left ck) _) | with_reducible exact five (AIn.put (And.left ck) (by omega) (by omega) _ _ _ _ _) | with_reducible exact five (AIn.drew (AIn.alloc HA2.out _)))
              case tek_12 =>
                clear hK K
                try simp only [Act.put, List.setIfInBounds_toArray, List.set_cons_zero, List.set_cons_succ]
                refine wpAnyH_ready (rs := [2]) (by kernel_rfl) (by simp) ?_
                refine AllReadyH.cons rfl (fun K hK => ?aek_13) ?bek_13
                case aek_13 =>
                  (go_simp; go_at_call 24; (with_reducible refine (HV.out _ (HR.out.grown (AIn.gr (And.left hHeld)))).mono ?_); rintro e w4 ⟨rfl, g4⟩; have hq := g4.heap hq0 (by simp); obtain ⟨q0, q1, q2, q3, q4⟩ := cells5 hq; have qf := fun j => free_of hq j; have ck := five (AIn.go (And.left hHeld) g4))
                  refine hK.out _ _ ?sek_13 (fun hHeld => ?tek_13)
                  case sek_13 => (first | with_reducible exact ck | with_reducible exact five (AIn.alloc (And.left hHeld) _) | with_reducible exact five (AIn.alloc (And.left ck) _) | with_reducible exact five (AIn.put (And.left ck) (by omega) (by omega) _ _ _ _ _) | with_reducible exact five (AIn.drew (AIn.alloc HA2.out _)))
                  case tek_13 =>
                    clear hK K
                    try simp only [Act.put, List.setIfInBounds_toArray, List.set_cons_zero, List.set_cons_succ]
                    refine wpAnyH_take (i := 3) (v := ?vek_13) rfl (by kernel_rfl) (by kernel_rfl) (by kernel_rfl) (fun _ _ _ h => h) (Or.inl ⟨by kernel_rfl, ?hek_13⟩) (by assumption) ?rek_13
                    case hek_13 => (intro w0 hSw; (try dsimp only at hSw); go_simp; (try with_reducible rfl))
                    try simp only [Act.put, List.setIfInBounds_toArray, List.set_cons_zero, List.set_cons_succ]
                    refine wpAnyH_ready (rs := [5]) (by kernel_rfl) (by simp) ?_
                    refine AllReadyH.cons rfl (fun K hK => ?aek_15) ?bek_15
                    case aek_15 =>
                      go_simp
                      refine hK.out _ _ ?sek_15 (fun hHeld => ?tek_15)
                      case sek_15 => (first | with_reducible exact ck | with_reducible exact five (AIn.alloc (And.left hHeld) _) | with_reducible exact five (AIn.alloc (And.left ck) _) | with_reducible exact five (AIn.put (And.left ck) (by omega) (by omega) _ _ _ _ _) | with_reducible exact five (AIn.drew (AIn.alloc HA2.out _)))
                      case tek_15 =>
                        clear hK K
                        try simp only [Act.put, List.setIfInBounds_toArray, List.set_cons_zero, List.set_cons_succ]
                        refine wpAnyH_done (by kernel_rfl) ?_ _
                        try dsimp only
                        (go_wp2_with fail; go_meet; (case rel => first | with_reducible exact ⟨_, rfl, Lib.hid (BIn.one (And.left ck) _)⟩ | with_reducible exact ⟨_, rfl, Lib.hid (BIn.mk' (AIn.put (And.left ck) (by omega) (by omega) _ _ _ _ _) (heap5 hq _ _ _ _ _))⟩))
                    case bek_15 =>
                      exact AllReadyH.nil
                case bek_13 =>
                  exact AllReadyH.nil
            case bek_12 =>
              exact AllReadyH.nil
        case bek_11 =>
          exact AllReadyH.nil
  case rest =>
    obtain ⟨YB, rfl, HB⟩ := hcut
    obtain ⟨x0, x1, x2, x3, x4⟩ := cells5 HB.out.1.1
    obtain ⟨y0, y1, y2, y3, y4⟩ := cells5 HB.out.2
    have HGC := Lib.hid HB.out.1.2
    have HRC := Lib.hid (HR.out.grown HB.out.1.2)
    go_wp2_with fail
    refine (HN.out _ HRC.out).mono ?_
    rintro e w5 ⟨rfl, g5⟩
    obtain ⟨x0, x1, x2, x3, x4⟩ := cells5 (g5.heap HB.out.1.1 (by simp))
    obtain ⟨y0, y1, y2, y3, y4⟩ := cells5 (g5.heap HB.out.2 (by simp))
    have HG5 := Lib.hid (grownBy_trans HGC.out g5)
    have HH5 := Lib.hid (HH.out w5 (HR.out.grown (grownBy_alloc' HG5.out _)))
    have HAA := Lib.hid (g5.heap HB.out.1.1 (by simp))
    clear g5
    go_wp2_with fail
    refine HH5.out.mono ?_
    rintro e w6 ⟨rfl, g6⟩
    obtain ⟨x0, x1, x2, x3, x4⟩ := cells5 (g6.heap ((World.grownBy_alloc w5 _ none).heap HAA.out (by simp)) (by simp))
    have HG6 := Lib.hid (grownBy_trans (grownBy_alloc' HG5.out _) g6)
    clear g6
    go_wp2_with fail
    refine (HV.out _ (HR.out.grown HG6.out)).mono ?_
    rintro e w7 ⟨rfl, g7⟩
    have HG7 := Lib.hid (grownBy_trans HG6.out g7)
    clear g7
    go_wp2_with fail
    refine (HNA.out _ (HR.out.grown HG7.out)).mono ?_
    rintro e w8 ⟨rfl, g8⟩
    have HG8 := Lib.hid (grownBy_trans HG7.out g8)
    clear g8
    go_wp2_with fail
    go_ret
    exact ⟨rfl, HG8.out⟩
end Go.Proofs.YtgaenpbdfelhhaaDoor
