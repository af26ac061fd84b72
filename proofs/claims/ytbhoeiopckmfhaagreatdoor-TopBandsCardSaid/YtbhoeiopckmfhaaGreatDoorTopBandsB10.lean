/- The walks of signer.Open, Public, and of no signer. · signer.Open of what may not be; the laws' speaks. · Signers where nothing fails. · The walk of the whole's signs. · The walks of bits' loops. · The walks of bits.First and of the document's Bit. · What BitsOrder and BitsBands need of plain bits. No walk. · Plain words for sparse trees: nodes of pairs. No walk. · Below, to whatever depth. -/
import Derived.Test.YtbhoeiopckmfhaaGreatDoorTopBandsB9
import Derived.Test.YtbhoeiopckmfhaaGreatDoorTopBandsB7
import Derived.Deep.RegionHeld3
import Derived.Test.YtbhoeiopckmfhaaGreatDoorTopBandsB4
import Derived.Test.YtbhoeiopckmfhaaGreatDoorTopBandsB5
import Derived.Laws.BitsAllLaws
import Derived.Test.YtbhoeiopckmfhaaGreatDoorTopBandsB2
namespace Go.Proofs.YtbhoeiopckmfhaaGreatDoor
open Go.RowKit
attribute [local irreducible] shaL

theorem halfLoop_rec (turn : Nat) (secs : List ByteArray) : ∀ (f : Nat) (L : List ByteArray) (u : Nat), (∀ s ∈ L, s.size ≤ 900) → ∀ s ∈ (halfLoop turn secs f L u).1, s.size ≤ 900
  | 0, L, u, h => h
  | f + 1, L, u, h => by
    rw [halfLoop]
    split
    · cases e : readS turn L.length (secs.drop u) with
      | none => exact h
      | some s =>
        refine halfLoop_rec turn secs f (L ++ [s]) _ (fun x hx => ?_)
        rcases List.mem_append.1 hx with hx | hx
        · exact h x hx
        · rw [List.mem_singleton.1 hx]; exact (readS_size _ _ _ _ e).1
    · exact h
theorem halfS_rec (secs : List ByteArray) : ∀ s ∈ (halfS secs).recs, s.size ≤ 900 := by
  unfold halfS
  split
  · intro s hs; cases hs
  · split
    · intro s hs; cases hs
    · exact halfLoop_rec _ _ _ _ _ (fun s hs => by cases hs)
theorem pickS_rec (first size : Nat) (hs : Nat → HalfT) (k : Nat) (h : ∀ j, ∀ s ∈ (hs j).recs, s.size ≤ 900) : ∀ s ∈ (pickS first size hs k).recs, s.size ≤ 900 := by
  induction k with
  | zero => intro s hs; cases hs
  | succ k ih =>
    rw [pickS]
    split
    · exact h k
    · exact ih
theorem bookOf_rec (D : DiskS) (first size : Nat) : ∀ s ∈ (bookOf D first size).recs, s.size ≤ 900 := pickS_rec _ _ _ _ (fun _ => halfS_rec _)
theorem sign_nil (m : ByteArray) (w : World) : Calls Tryz.prog 47 #[.pointer none, .string m] w fun e w' => e = .returned (.tuple #[sigZ, .int .i64 1]) ∧ w.grownBy w' none := by
  go_enter Tryz.func47, Tryz.ntmps47
  go_wp2_with fail
  go_returns
  exact ⟨rfl, World.grownBy_alloc _ _ _⟩
theorem spublic_nil (w : World) : Calls Tryz.prog 51 #[.pointer none] w fun e w' => e = .returned (pubV ⟨#[]⟩ ⟨#[]⟩ 0) ∧ w.grownBy w' none := by
  go_enter Tryz.func51, Tryz.ntmps51
  go_wp2_with fail
  go_returns
  exact ⟨rfl, World.grownBy_alloc _ _ _⟩
theorem spublic_any (w : World) (sg kb lg : Nat) (gv nv : Value) (seed : ByteArray) (h : Nat) (hb : w.heap[sg]? = some (.cells #[.pointer (some ⟨kb, 0, none⟩), gv, nv] 160 (0, 0))) (hk : KeyBlk w kb seed h lg) :
    Calls Tryz.prog 51 #[.pointer (some ⟨sg, 0, none⟩)] w fun e w' => e = .returned (pubV (openS seed) (rootK seed h) h) ∧ w.grownBy w' none := by
  have c0 := cell_of hb 0
  have hlt : sg < w.heap.size := (Array.getElem?_eq_some_iff.1 hb).1
  simp at c0
  have HP := Lib.hid (fun w' (k : w.grownBy w' none) => xpublic_any kb seed h w' (hk.at_.grown k))
  clear hb hk
  go_enter Tryz.func51, Tryz.ntmps51
  have hg0 : w.grownBy (w.alloc (.cells #[.string ⟨#[]⟩, .string ⟨#[]⟩, .int .i64 0] 64)) none := World.grownBy_alloc _ _ _
  have hz0 : (w.alloc (.cells #[.string ⟨#[]⟩, .string ⟨#[]⟩, .int .i64 0] 64)).heap[w.heap.size]? = some (.cells #[.string ⟨#[]⟩, .string ⟨#[]⟩, .int .i64 0] 64 (0, 0)) := heap_alloc_at _ _ _ rfl
  have HG0 := Lib.hid hg0
  have HZ0 := Lib.hid hz0
  clear hg0 hz0
  go_wp2_with fail
  generalize w.alloc (.cells #[.string ⟨#[]⟩, .string ⟨#[]⟩, .int .i64 0] 64) = wz at *
  refine (HP.out wz HG0.out).mono ?_
  rintro e w1 ⟨rfl, g1⟩
  have hz1 := g1.heap HZ0.out (by simp)
  have HG1 := Lib.hid (grownBy_trans HG0.out g1)
  have z0 := cell_of hz1 0
  have z1 := cell_of hz1 1
  have z2 := cell_of hz1 2
  have f0 := free_of hz1 0
  have f1 := free_of hz1 1
  have f2 := free_of hz1 2
  simp at z0 z1 z2
  have HZ1 := Lib.hid hz1
  unfold pubV
  clear g1 hz1
  go_wp2_with fail
  have hW := heap_setCell (heap_setCell (heap_setCell HZ1.out 0 (.string (openS seed))) 1 (.string (rootK seed h))) 2 (.int .i64 h)
  have hWg : w.grownBy (((w1.setCell ⟨w.heap.size, 0, none⟩ (.string (openS seed))).setCell ⟨w.heap.size, 1, none⟩ (.string (rootK seed h))).setCell ⟨w.heap.size, 2, none⟩ (.int .i64 h)) none := grownBy_setNew (grownBy_setNew (grownBy_setNew HG1.out (Nat.le_refl _) 0 _) (Nat.le_refl _) 1 _) (Nat.le_refl _) 2 _
  generalize ((w1.setCell ⟨w.heap.size, 0, none⟩ (.string (openS seed))).setCell ⟨w.heap.size, 1, none⟩ (.string (rootK seed h))).setCell ⟨w.heap.size, 2, none⟩ (.int .i64 h) = wf at hW hWg ⊢
  have y0 := cell_of hW 0
  have y1 := cell_of hW 1
  have y2 := cell_of hW 2
  simp at y0 y1 y2
  refine bodyPost_ret (by simp [results, Tryz.results51, go_sem, y0, y1, y2]; try rfl) rfl ?_
  exact ⟨rfl, hWg⟩
/-- what Open tells of a book with the records L: a signer, or an error -/
theorem sopen_full (n0 : Nat) (X : List Nat) (n : Nat) (w : World) (b first count size : Nat) (D : DiskS) (seed : ByteArray) (h : Nat) (hh : h ≤ 6) (hss : seed.size ≤ 1000000000000) (hD : KDisk n0 X w b D) (hX : ∀ x ∈ X, x < w.heap.size) (hn0 : n0 ≤ w.heap.size) (hnl : D.last.length = n) (hn : n ≤ 1024) (h8 : 8 ≤ count) (hsz : count / 2 = size) (ha : first + count ≤ n) (hon : D.on = true) (hwl : D.wait.length ≤ 1000000000) (hr : ShaReady w) :
    Calls Tryz.prog 39 #[.pointer (some ⟨b, 0, none⟩), .int .i64 first, .int .i64 count, .string seed, .int .i64 h] w fun e w' => w.grownBy w' none ∧
      ((nextE (bookOf D first size).recs ≠ 0 ∧ e = .returned (.tuple #[.pointer none, .int .i64 (nextE (bookOf D first size).recs)]))
      ∨ (nextE (bookOf D first size).recs = 0 ∧ ∃ sg kb lg g, e = .returned (.tuple #[.pointer (some ⟨sg, 0, none⟩), .int .i64 0]) ∧ SigMem n0 X w' sg kb lg g b seed h (bookOf D first size) D (nextN (bookOf D first size).recs) ∧ w.heap.size ≤ sg ∧ w.heap.size ≤ kb ∧ w.heap.size ≤ lg)) := by
  have HR := Lib.hid hr
  have HKEY := Lib.hid (xnew_new seed h hh hss w hr)
  have HBK : Hid (∀ w' kb lg, w.grownBy w' none → KeyBlk w' kb seed h lg → w.heap.size ≤ lg → lg < kb → Calls Tryz.prog 40 #[.pointer (some ⟨b, 0, none⟩), .int .i64 first, .int .i64 count] w' fun e w'' => ∃ g, e = .returned (.tuple #[.pointer (some ⟨g, 0, none⟩), .int .i64 0]) ∧ KBook n0 (kb :: lg :: X) w'' g b (bookOf D first size) D ∧ w'.grownBy w'' none) := Lib.hid (fun w' kb lg k hk h1 h2 => by
    have hl := hk.lt
    refine bopen_any n0 (kb :: lg :: X) n w' b first count size D (hD.more k (fun i hi => ?_)) (fun x hx => ?_) (Nat.le_trans hn0 k.size) hnl hn h8 hsz ha hon hwl (hr.grown k)
    · simp only [List.mem_cons] at hi
      rcases hi with rfl | rfl | q
      · exact .inr (by omega)
      · exact .inr h1
      · exact .inl q
    · simp only [List.mem_cons] at hx
      rcases hx with rfl | rfl | q
      · exact hl.1
      · exact hl.2
      · exact Nat.lt_of_lt_of_le (hX x q) k.size)
  have hrec := bookOf_rec D first size
  have hok := bookOf_ok hD n first size hnl hn (by omega) (by omega)
  generalize bookOf D first size = B at HBK hok hrec ⊢
  obtain ⟨NN, hNN⟩ : ∃ x, nextN B.recs = x := ⟨_, rfl⟩
  obtain ⟨EE, hEE⟩ : ∃ x, nextE B.recs = x := ⟨_, rfl⟩
  rw [hNN, hEE]
  have HNE := Lib.hid (And.intro hNN hEE)
  have HOK := Lib.hid (And.intro hok hrec)
  have HXN := Lib.hid (And.intro hX hn0)
  clear hD hX hn0 hnl hon hwl hr hh hss hok hrec hNN hEE
  go_enter Tryz.func39, Tryz.ntmps39
  go_wp2_with fail
  refine HKEY.out.mono ?_
  rintro e w1 ⟨kb, lg, rfl, hk1, hl1, hl2, g1⟩
  have HB1 := Lib.hid (HBK.out w1 kb lg g1 hk1 hl1 hl2)
  have HK1 := Lib.hid hk1
  have HG1 := Lib.hid g1
  have HL := Lib.hid (And.intro hl1 hl2)
  clear HBK HKEY hk1 hl1 hl2 g1
  go_wp2_with fail
  refine HB1.out.mono ?_
  rintro e w2 ⟨g, rfl, ⟨rv, hB2⟩, g2⟩
  have HRC := Lib.hid (records_any w2 g b B rv hB2.mem (by have := HOK.out.1.recs; have := HOK.out.1.used; have := HOK.out.1.area; have := HOK.out.1.few; omega))
  have HB2 := Lib.hid hB2
  have HG2 := Lib.hid (grownBy_trans HG1.out g2)
  have HK2 := Lib.hid (HK1.out.turn (Turn.of_grown g2 (S := fun _ => False)) (fun q => q) (fun q => q))
  clear hB2 g2 HB1
  go_wp2_with fail
  refine HRC.out.mono ?_
  rintro e w3 ⟨v, rfl, hv, g3⟩
  have HNX := Lib.hid (nextOf_any w3 v B.recs hv (by have := HOK.out.1.recs; have := HOK.out.1.used; have := HOK.out.1.area; have := HOK.out.1.few; omega) (fun s hs => Nat.le_trans (HOK.out.2 s hs) (by decide)))
  rw [HNE.out.1, HNE.out.2] at HNX
  have HB3 : Hid (KBook n0 (kb :: lg :: X) w3 g b B D) := Lib.hid (KBook.more ⟨rv, HB2.out⟩ g3 (fun i hi => .inl hi))
  have HG3 := Lib.hid (grownBy_trans HG2.out g3)
  have HK3 := Lib.hid (HK2.out.turn (Turn.of_grown g3 (S := fun _ => False)) (fun q => q) (fun q => q))
  clear hv g3 HRC HB2 HG2 HK2
  go_wp2_with fail
  refine HNX.out.mono ?_
  rintro e w4 ⟨rfl, g4⟩
  have HB4 := Lib.hid (HB3.out.more g4 (fun i hi => .inl hi))
  have HG4 := Lib.hid (grownBy_trans HG3.out g4)
  have HK4 := Lib.hid (HK3.out.turn (Turn.of_grown g4 (S := fun _ => False)) (fun q => q) (fun q => q))
  have HKL := Lib.hid HK4.out.lt
  clear g4 HB3 HG3 HK3 HNX
  by_cases hE : EE = 0
  · have e1 : (EE == 0) = true := by simpa using hE
    have e2 : (EE != 0) = false := by simpa using hE
    have HE := Lib.hid hE
    clear hE
    go_wp2_with fail
    have hG : w4.grownBy (w4.alloc (.cells #[.pointer (some ⟨kb, 0, none⟩), .pointer (some ⟨g, 0, none⟩), .int .i64 NN] 160)) none := World.grownBy_alloc _ _ _
    go_returns
    refine ⟨grownBy_trans HG4.out hG, .inr ⟨HE.out, w4.heap.size, kb, lg, g, rfl, ⟨heap_alloc_at _ _ _ rfl, HK4.out.turn (Turn.of_grown hG (S := fun _ => False)) (fun q => q) (fun q => q), ?_, ?_⟩, HG4.out.size, by have := HL.out; omega, HL.out.1⟩⟩
    · refine HB4.out.more hG (fun i hi => ?_)
      simp only [List.mem_cons] at hi
      rcases hi with rfl | hi
      · exact .inr (Nat.le_refl _)
      · exact .inl (by simpa using hi)
    · refine ⟨Nat.le_trans HXN.out.2 HG4.out.size, fun q => ?_, ?_, ?_⟩
      · have := HXN.out.1 _ q
        have := HG4.out.size
        omega
      · have := HKL.out.1
        omega
      · have := HKL.out.2
        omega
  · have e1 : (EE == 0) = false := by simpa using hE
    have e2 : (EE != 0) = true := by simpa using hE
    have HE := Lib.hid hE
    clear hE
    go_wp2_with fail
    go_returns
    exact ⟨HG4.out, .inl ⟨HE.out, rfl⟩⟩
theorem sopen_any (n0 : Nat) (X : List Nat) (n : Nat) (w : World) (b first count size : Nat) (D : DiskS) (seed : ByteArray) (h : Nat) (hh : h ≤ 6) (hss : seed.size ≤ 1000000000000) (hD : KDisk n0 X w b D) (hX : ∀ x ∈ X, x < w.heap.size) (hn0 : n0 ≤ w.heap.size) (hnl : D.last.length = n) (hn : n ≤ 1024) (h8 : 8 ≤ count) (hsz : count / 2 = size) (ha : first + count ≤ n) (hon : D.on = true) (hwl : D.wait.length ≤ 1000000000) (hr : ShaReady w) :
    Calls Tryz.prog 39 #[.pointer (some ⟨b, 0, none⟩), .int .i64 first, .int .i64 count, .string seed, .int .i64 h] w fun e w' => w.grownBy w' none ∧
      ((nextE (bookOf D first size).recs ≠ 0 ∧ e = .returned (.tuple #[.pointer none, .int .i64 (nextE (bookOf D first size).recs)]))
      ∨ (nextE (bookOf D first size).recs = 0 ∧ ∃ sg kb lg g, e = .returned (.tuple #[.pointer (some ⟨sg, 0, none⟩), .int .i64 0]) ∧ SigMem n0 X w' sg kb lg g b seed h (bookOf D first size) D (nextN (bookOf D first size).recs))) :=
  (sopen_full n0 X n w b first count size D seed h hh hss hD hX hn0 hnl hn h8 hsz ha hon hwl hr).mono (by
    rintro e w' ⟨k, q | ⟨q, sg, kb, lg, g, r1, r2, _⟩⟩
    · exact ⟨k, .inl q⟩
    · exact ⟨k, .inr ⟨q, sg, kb, lg, g, r1, r2⟩⟩)
end Go.Proofs.YtbhoeiopckmfhaaGreatDoor

namespace Go.Proofs.YtbhoeiopckmfhaaGreatDoor
open Go.RowKit
attribute [local irreducible] shaL

theorem sopen_height (d : Option Addr) (f c : Int) (seed : ByteArray) (h : Int) (hh : h < 0 ∨ 6 < h) (w : World) :
    Calls Tryz.prog 39 #[.pointer d, .int .i64 f, .int .i64 c, .string seed, .int .i64 h] w fun e w' => e = .returned (.tuple #[.pointer none, .int .i64 1]) ∧ w.grownBy w' none := by
  have HN := Lib.hid (xnew_not seed h hh w)
  clear hh
  go_enter Tryz.func39, Tryz.ntmps39
  go_wp2_with fail
  refine HN.out.mono ?_
  rintro e w1 ⟨rfl, rfl⟩
  go_wp2_with fail
  go_returns
  exact ⟨rfl, World.grownBy.refl _ _⟩
theorem sopen_bad (F : Nat → Prop) (b : Nat) (D : DiskS) (f c : Int) (seed : ByteArray) (h : Nat) (hh : h ≤ 6) (hss : seed.size ≤ 1000000000000) (w : World) (hD : DiskAt F w b D) (hl : D.last.length ≤ 1024) (hc2 : c ≤ 9223372036854775807) (hb : c < 8 ∨ f < 0 ∨ (D.last.length : Int) - c < f) (hr : ShaReady w) :
    Calls Tryz.prog 39 #[.pointer (some ⟨b, 0, none⟩), .int .i64 f, .int .i64 c, .string seed, .int .i64 h] w fun e w' => e = .returned (.tuple #[.pointer none, .int .i64 1]) ∧ w.grownBy w' none := by
  have HN := Lib.hid (xnew_new seed h hh hss w hr)
  have HB : Hid (∀ w', w.grownBy w' none → Calls Tryz.prog 40 #[.pointer (some ⟨b, 0, none⟩), .int .i64 f, .int .i64 c] w' fun e w'' => e = .returned (.tuple #[.pointer none, .int .i64 1]) ∧ w'.grownBy w'' none) :=
    Lib.hid (fun w' k => open_bad _ b D f c w' (DiskAt.turn (S := fun _ => False) hD (Turn.of_grown k) (fun _ _ _ q => q)) hl hc2 hb)
  clear hD hl hc2 hb hr hh hss
  go_enter Tryz.func39, Tryz.ntmps39
  go_wp2_with fail
  refine HN.out.mono ?_
  rintro e w1 ⟨kb, lg, rfl, _, _, _, g1⟩
  have HG1 := Lib.hid g1
  clear g1
  go_wp2_with fail
  refine (HB.out w1 HG1.out).mono ?_
  rintro e w2 ⟨rfl, g2⟩
  have HG2 := Lib.hid (grownBy_trans HG1.out g2)
  clear g2 HG1
  go_wp2_with fail
  go_returns
  exact ⟨rfl, HG2.out⟩
theorem secsK_new (n A k : Nat) (h : A + k ≤ n) : secsK (newD n) A k = List.replicate k (str (zeros 64)) := by
  apply List.ext_getElem?
  intro i
  unfold secsK
  rw [List.getElem?_map, List.getElem?_replicate]
  by_cases hi : i < k
  · rw [List.getElem?_range hi, if_pos hi]
    show some (str (readL (newD n).last (newD n).wait (A + i))) = _
    rw [new_read n (A + i) (by omega)]
  · rw [List.getElem?_eq_none (by simpa using hi), if_neg hi]
    rfl
theorem bookOf_new (n first size : Nat) (h : first + 2 * size ≤ n) (h4 : 4 ≤ size) : bookOf (newD n) first size = newB first size := by
  have hz : ∀ p, p < 2 → halfS (secsK (newD n) (first + p * size) size) = ⟨0, [], 0⟩ := by
    intro p hp
    rw [secsK_new n _ size (by rcases (by omega : p = 0 ∨ p = 1) with rfl | rfl <;> omega)]
    obtain ⟨k, rfl⟩ : ∃ k, size = k + 1 := ⟨size - 1, by omega⟩
    rw [List.replicate_succ]
    exact halfS_zero _
  unfold bookOf
  rw [pickS, pickS, pickS, hz 0 (by decide), hz 1 (by decide)]
  rfl
end Go.Proofs.YtbhoeiopckmfhaaGreatDoor

namespace Go.Proofs.YtbhoeiopckmfhaaGreatDoor
open Go.RowKit
attribute [local irreducible] shaL

theorem SigMem.more {n0 : Nat} {X Y : List Nat} {w w' : World} {sg kb lg g b : Nat} {seed : ByteArray} {h : Nat} {B : BookS} {D : DiskS} {next : Nat} (m : SigMem n0 X w sg kb lg g b seed h B D next) (k : w.grownBy w' none) (hY : ∀ i ∈ Y, i ∈ X ∨ w.heap.size ≤ i) : SigMem n0 Y w' sg kb lg g b seed h B D next := by
  have hs : sg < w.heap.size := (Array.getElem?_eq_some_iff.1 m.blk).1
  refine ⟨k.heap m.blk (by simp), m.key.turn (Turn.of_grown k (S := fun _ => False)) (fun q => q) (fun q => q), m.book.more k (fun i hi => ?_), m.own.1, fun q => ?_, m.own.2.2⟩
  · simp only [List.mem_cons] at hi ⊢
    rcases hi with hi | hi | hi | hi
    · exact .inl (.inl hi)
    · exact .inl (.inr (.inl hi))
    · exact .inl (.inr (.inr (.inl hi)))
    · rcases hY i hi with q | q
      · exact .inl (.inr (.inr (.inr q)))
      · exact .inr q
  · rcases hY sg q with q | q
    · exact m.own.2.1 q
    · omega
theorem StrsAt.turned {S : Nat → Prop} {w w' : World} {v : Value} {L : List ByteArray} (h : StrsAt w v L) (k : Turn S w w') (hb : ∀ x, v.ownBlock = some x → ¬ S x) : StrsAt w' v L := by
  obtain ⟨a, c, e, hc⟩ := h
  refine ⟨a, c, e, fun i hi => ?_⟩
  obtain ⟨g, o, e2, h3⟩ := hc i hi
  refine ⟨g, o, e2, ?_⟩
  rw [k.cell (cell_lt h3) (hb g (by rw [e, e2]; rfl))]
  exact h3
theorem reserve_fine (B : BookS) (D : DiskS) (n : Nat) (hf : B.failed = false) (hl : 1 ≤ B.size - B.used) (h : D.fuse < 0) :
    ∃ E, reserveS B D n = (0, { B with turn := max B.turn 1, recs := B.recs ++ [idxS n], used := B.used + 1 }, E) ∧ E.on = D.on ∧ E.fuse = D.fuse ∧ E.last.length = D.last.length ∧ E.wait = [] ∧ E.keep = D.keep := by
  have h1 : partsN (idxS n).size = 1 := by rw [idxS_size]; decide
  obtain ⟨E, hE, r⟩ := put_fine B D (idxS n) hf (by rw [idxS_size]; decide) (by rw [h1]; exact hl) h
  rw [h1] at hE
  refine ⟨E, ?_, r⟩
  unfold reserveS
  rw [hE, if_neg (by show ¬ (0 : Int) = 9; decide)]
theorem sopen_new (n0 : Nat) (X : List Nat) (n : Nat) (w : World) (b first count size : Nat) (seed : ByteArray) (h : Nat) (hh : h ≤ 6) (hss : seed.size ≤ 1000000000000) (hD : KDisk n0 X w b (newD n)) (hX : ∀ x ∈ X, x < w.heap.size) (hn0 : n0 ≤ w.heap.size) (hn : n ≤ 1024) (h8 : 8 ≤ count) (hsz : count / 2 = size) (ha : first + count ≤ n) (hr : ShaReady w) :
    Calls Tryz.prog 39 #[.pointer (some ⟨b, 0, none⟩), .int .i64 first, .int .i64 count, .string seed, .int .i64 h] w fun e w' => w.grownBy w' none ∧ ∃ sg kb lg g, e = .returned (.tuple #[.pointer (some ⟨sg, 0, none⟩), .int .i64 0]) ∧ SigMem n0 X w' sg kb lg g b seed h (newB first size) (newD n) 0 :=
  (sopen_any n0 X n w b first count size (newD n) seed h hh hss hD hX hn0 (by show (List.replicate n (zeros 64)).length = n; simp) hn h8 hsz ha rfl (by show 0 ≤ _; decide) hr).mono (by
    rw [bookOf_new n first size (by omega) (by omega)]
    rintro e w' ⟨k, ⟨h1, _⟩ | ⟨_, h2⟩⟩
    · exact absurd rfl h1
    · exact ⟨k, h2⟩)
theorem ssign_fine (n0 M : Nat) (X : List Nat) (w : World) (sg kb lg g b : Nat) (seed m : ByteArray) (h : Nat) (B : BookS) (D : DiskS) (next : Nat) (hM : SigMem n0 X w sg kb lg g b seed h B D next) (hh : h ≤ 6) (hs : next < 2 ^ h)
    (hX : ∀ x ∈ X, x < w.heap.size) (hn0 : n0 ≤ w.heap.size) (ho : BookOK M B) (hnl : D.last.length = M) (hon : D.on = true)
    (hwl : D.wait.length ≤ 100000000) (hf : D.fuse < 0) (hk : D.keep.length ≤ 9223372036854775807) (hr : ShaReady w) (hsX : n0 ≤ 0 → False) (hrX : n0 ≤ 1 → False)
    (hss : seed.size ≤ 1000000000000) (hms : m.size ≤ 1000000000000) (hfl : B.failed = false) (hl : 1 ≤ B.size - B.used) :
    Calls Tryz.prog 47 #[.pointer (some ⟨sg, 0, none⟩), .string m] w fun e w' => Turn (rest n0 X) w w' ∧ ∃ c p E, e = .returned (.tuple #[sigV next c p, .int .i64 0]) ∧ StrsAt w' c (chainsS seed next m) ∧ StrsAt w' p (pathS h (leavesS seed h) next) ∧
      SigMem n0 (ownB c ++ ownB p ++ X) w' sg kb lg g b seed h { B with turn := max B.turn 1, recs := B.recs ++ [idxS (next + 1)], used := B.used + 1 } E (next + 1) ∧ E.on = true ∧ E.fuse = D.fuse ∧ E.last.length = M ∧ E.wait = [] ∧ E.keep = D.keep := by
  obtain ⟨E, hE, h1, h2, h3, h4, h5⟩ := reserve_fine B D (next + 1) hfl hl hf
  have := ssign_any n0 M X w sg kb lg g b seed m h B D next hM hh hs hX hn0 ho hnl hon hwl (by omega) hk hr hsX hrX hss hms
  rw [hE] at this
  refine this.mono ?_
  rintro e w' ⟨t, ⟨q, _⟩ | ⟨_, c, p, rfl, r1, r2, r3⟩⟩
  · exact absurd rfl q
  · exact ⟨t, c, p, E, rfl, r1, r2, r3, h1.trans hon, h2, h3.trans hnl, h4, h5⟩
/-- a key's own signature is verified -/
theorem vown (seed m : ByteArray) (h i : Nat) (hh : h ≤ 6) (hi : i < 2 ^ h) (hm : m.size ≤ 1000000000000) (ca : Option Addr) (cc : Nat) (pa : Option Addr) (pc : Nat) (w : World) (hc : StrsAt w (.slice ca 35 cc) (chainsS seed i m)) (hp : StrsAt w (.slice pa h pc) (pathS h (leavesS seed h) i)) (hr : ShaReady w) :
    Calls Tryz.prog 50 #[pubV (openS seed) (rootK seed h) h, .string m, sigV i (.slice ca 35 cc) (.slice pa h pc)] w fun e w' => e = .returned (.bool true) ∧ w.grownBy w' none :=
  verify_any (openS seed) (rootK seed h) m h i _ _ ca cc pa pc true hh hi (openS_size seed) hm (chains_35 seed m i) (chains_16 seed m i) (pathS_length h (leavesS seed h) i) (path_small seed h i) (by rw [sign_climbs seed m h i hi]; simp) w hc hp hr
end Go.Proofs.YtbhoeiopckmfhaaGreatDoor

namespace Go.Proofs.YtbhoeiopckmfhaaGreatDoor
open Go.RowKit
attribute [local irreducible] shaL

def seedT : ByteArray := ⟨#[115, 101, 101, 100]⟩
set_option maxRecDepth 100000 in
set_option maxHeartbeats 3200000 in
theorem top_signs (w : World) (hr : ShaReady w) : Calls Tryz.prog 54 #[] w fun e w' => e = .returned (.bool true) ∧ w.grownBy w' none := by
  have HR := Lib.hid hr
  have HSX := Lib.hid hr.lt
  have HNEW := Lib.hid (new_k (n0 := w.heap.size) (X := []) 8 (by decide) (by decide) w (by simp) (Nat.le_refl _))
  clear hr
  go_enter Tryz.func54, Tryz.ntmps54
  go_wp2_with fail
  refine HNEW.out.mono ?_
  rintro e w1 ⟨b, rfl, hD, g1⟩
  have HOP := Lib.hid (sopen_new w.heap.size [] 8 w1 b 0 8 4 seedT 0 (by decide) (by decide) hD (by simp) g1.size (by decide) (by decide) (by decide) (by decide) (HR.out.grown g1))
  have HG1 := Lib.hid g1
  clear hD g1 HNEW
  go_wp2_with fail
  refine HOP.out.mono ?_
  rintro e w2 ⟨g2, sg, kb, lg, g, rfl, hM⟩
  have HG2 := Lib.hid (grownBy_trans HG1.out g2)
  have HS1 := Lib.hid (ssign_fine w.heap.size 8 [] w2 sg kb lg g b seedT ⟨#[109]⟩ 0 (newB 0 4) (newD 8) 0 hM (by decide) (by decide) (by simp) HG2.out.size (newB_ok 8 0 4 (by decide) (by decide) (by decide)) rfl rfl (by decide) (by decide) (by decide) (HR.out.grown HG2.out) (fun h => by have := HSX.out.1; omega) (fun h => by have := HSX.out.2; omega) (by decide) (by decide) rfl (by decide))
  clear hM g2 HOP
  go_wp2_with fail
  refine HS1.out.mono ?_
  rintro e w3 ⟨t3, c1, p1, E1, rfl, hc3, hp3, hM3, on1, fu1, la1, wa1, ke1⟩
  have HG3 := Lib.hid (grownBy_below (t3.bel (below_grownBy HG2.out) HG2.out.size))
  obtain ⟨ca, cc, rfl⟩ := hc3.form
  obtain ⟨pa, pc, rfl⟩ := hp3.form
  have HC3 := Lib.hid hc3
  have HP3 := Lib.hid hp3
  have HM3 := Lib.hid hM3
  clear hc3 hp3 hM3 on1 fu1 la1 wa1 ke1 t3 HS1 HG2 HG1
  rw [chains_35] at HC3 HM3 ⊢
  rw [pathS_length] at HP3 HM3 ⊢
  have HBK := Lib.hid HM3.out.blk
  have HKEY := Lib.hid HM3.out.key
  have HR3 := Lib.hid (HR.out.grown HG3.out)
  have hpub : Hid (∀ w', w3.grownBy w' none → Calls Tryz.prog 51 #[.pointer (some ⟨sg, 0, none⟩)] w' fun e w'' => e = .returned (.agg #[.string (openS seedT), .string (rootK seedT 0), .int .i64 0]) ∧ w'.grownBy w'' none) := fun w' k =>
    spublic_any w' sg kb lg _ _ seedT 0 (k.heap HBK.out (by simp)) (HKEY.out.turn (Turn.of_grown k (S := fun _ => False)) (fun q => q) (fun q => q))
  have hver1 : Hid (∀ w', w3.grownBy w' none → Calls Tryz.prog 50 #[.agg #[.string (openS seedT), .string (rootK seedT 0), .int .i64 0], .string ⟨#[109]⟩, .agg #[.int .i64 0, .slice ca 35 cc, .slice pa 0 pc]] w' fun e w'' => e = .returned (.bool true) ∧ w'.grownBy w'' none) := fun w' k =>
    vown seedT ⟨#[109]⟩ 0 0 (by decide) (by decide) (by decide) ca cc pa pc w' (HC3.out.grown k) (HP3.out.grown k) (HR3.out.grown k)
  generalize openS seedT = OO at hpub hver1
  generalize rootK seedT 0 = RR at hpub hver1
  clear HM3 HC3 HP3
  unfold sigV
  go_wp2_with fail
  have ha4 : w3.grownBy (w3.alloc (.cells #[.int .i64 0, .slice ca 35 cc, .slice pa 0 pc] 50)) none := World.grownBy_alloc _ _ _
  have hz4 : (w3.alloc (.cells #[.int .i64 0, .slice ca 35 cc, .slice pa 0 pc] 50)).heap[w3.heap.size]? = some (.cells #[.int .i64 0, .slice ca 35 cc, .slice pa 0 pc] 50 (0, 0)) := heap_alloc_at _ _ _ rfl
  generalize w3.alloc (.cells #[.int .i64 0, .slice ca 35 cc, .slice pa 0 pc] 50) = w4 at ha4 hz4 ⊢
  generalize w3.heap.size = SA at hz4 ⊢
  have HA4 := Lib.hid ha4
  have a0 := cell_of hz4 0
  have a1 := cell_of hz4 1
  have a2 := cell_of hz4 2
  simp at a0 a1 a2
  have HS : Hid (∀ w', w4.grownBy w' none → w4.grownBy w' none ∧ w'.cell? ⟨SA, 0, none⟩ = some (.int .i64 0) ∧ w'.cell? ⟨SA, 1, none⟩ = some (.slice ca 35 cc) ∧ w'.cell? ⟨SA, 2, none⟩ = some (.slice pa 0 pc)) := fun w' g => ⟨g, g.cell a0 (by simp), g.cell a1 (by simp), g.cell a2 (by simp)⟩
  have gk := grownBy_drew (World.grownBy.refl w4 none)
  clear a0 a1 a2 hz4 ha4
  go_region_held3 (fun w' => w4.grownBy w' none ∧ w'.cell? ⟨SA, 0, none⟩ = some (.int .i64 0) ∧ w'.cell? ⟨SA, 1, none⟩ = some (.slice ca 35 cc) ∧ w'.cell? ⟨SA, 2, none⟩ = some (.slice pa 0 pc)) (exact HS.out _ gk)
    (first
      | (go_at_call 51; (with_reducible refine (hpub.out _ (grownBy_trans HA4.out gk)).mono ?_); rintro e w5 ⟨rfl, g4⟩; have gk := grownBy_trans gk g4; clear g4)
      | (go_at_call 50; (with_reducible refine (hver1.out _ (grownBy_trans HA4.out gk)).mono ?_); rintro e w5 ⟨rfl, g4⟩; have gk := grownBy_trans gk g4; clear g4))
  have GF := Lib.hid (grownBy_trans HG3.out (grownBy_trans HA4.out gk))
  clear gk
  go_wp2_with fail
  go_ret
  exact ⟨rfl, GF.out⟩
end Go.Proofs.YtbhoeiopckmfhaaGreatDoor

namespace Go.Proofs.YtbhoeiopckmfhaaGreatDoor
open Go.RowKit

/-- the number of the first bits -/
def bandN (s : ByteArray) : Nat → Nat
  | 0 => 0
  | k + 1 => 2 * bandN s k + bitS s k
theorem bandN_lt (s : ByteArray) : ∀ k, bandN s k < 2 ^ k
  | 0 => by simp [bandN]
  | k + 1 => by
    have := bandN_lt s k
    have := bitS_le s k
    rw [bandN, Nat.pow_succ]
    omega
theorem or_bit (n b : Nat) (hb : b ≤ 1) : 2 * n ||| b = 2 * n + b := by
  have := Nat.two_pow_add_eq_or_of_lt (i := 1) (b := b) (by omega) n
  simp at this
  rw [← this]
theorem band_cap (k : Nat) (h : k ≤ 16) : 2 ^ k ≤ 65536 := Nat.le_trans (Nat.pow_le_pow_right (by decide) h) (by decide)
/-- are the first bits alike? -/
def belowB (a b : ByteArray) (n : Nat) : Bool := (List.range n).all fun i => bitS a i == bitS b i
theorem belowB_succ (a b : ByteArray) (n : Nat) : belowB a b (n + 1) = (belowB a b n && (bitS a n == bitS b n)) := by
  simp [belowB, List.range_succ, List.all_append]
theorem belowB_iff (a b : ByteArray) (n : Nat) : belowB a b n = true ↔ ∀ i, i < n → bitS a i = bitS b i := by
  simp [belowB]

set_option maxRecDepth 100000 in
set_option maxHeartbeats 1600000 in
theorem band_any (s : ByteArray) (hs : s.size ≤ maxLen) (d : Nat) (hd : d ≤ 16) (w : World) :
    Calls Tryz.prog 30 #[.string s, .int .i64 d] w fun e w' => e = .returned (.int .i64 (bandN s d : Nat)) ∧ w.grownBy w' none := by
  have HB := Lib.hid (fun (i : Nat) (hi : i ≤ 16) (w : World) => bit_any s hs i (by omega) w)
  have HM := Lib.hid (bands_any d (by omega))
  have HD := Lib.hid hd
  have h16 : decide (d ≤ 16) = true := by simp [hd]
  rw [h16] at HM
  clear hs h16
  go_enter Tryz.func30, Tryz.ntmps30
  go_wp2_with fail
  refine (HM.out _).mono ?_
  rintro e w1 ⟨rfl, rfl⟩
  clear HM
  go_wp2_with fail
  go_loopw [5, 6, 11, 12, 13, 14, 15, 16, 17, 18, 19, 20] (fun nv _ iv _ _ _ _ _ _ _ _ _ wr => ∃ (k : Nat), k ≤ d ∧ iv = .int .i64 k ∧ nv = .int .i64 (bandN s k : Nat) ∧ Hid (w.grownBy wr none)) (fun _ _ iv _ _ _ _ _ _ _ _ _ _ => d - (intOf iv).toNat)
  case atStart => exact ⟨0, Nat.zero_le _, rfl, rfl, World.grownBy.refl _ _⟩
  case round =>
    obtain ⟨k, hk, rfl, rfl, HW⟩ := hrel
    have hb := bandN_lt s k
    have hc := band_cap k (by omega)
    have hu : bandN s (k + 1) = 2 * bandN s k + bitS s k := rfl
    have hbl := bitS_le s k
    by_cases hlt : k < d
    · have d1 : (k : Int) < (d : Int) := by omega
      have HK := Lib.hid (HB.out k (by omega))
      generalize bandN s k = n at hb hu
      generalize bitS s k = b at hu hbl HK
      have e1 : (n : Int) * 2 = ((2 * n : Nat) : Int) := by omega
      have e2 := bits_or_i64_nat (2 * n) b (by omega) (by omega)
      rw [or_bit n b hbl, ← hu] at e2
      have HU := Lib.hid hu
      have e3 : (n : Int) < 65536 := by omega
      have e2 : bits .or .i64 (2 * (n : Int)) (b : Int) = ((bandN s (k + 1) : Nat) : Int) := by rw [show (2 * (n : Int)) = ((2 * n : Nat) : Int) from by omega]; exact e2
      clear hu
      go_wp2_with fail
      refine (HK.out _).mono ?_
      rintro e w2 ⟨rfl, g2⟩
      go_wp2_with fail
      go_roundw
      case rel => exact ⟨k + 1, by omega, by go_num, by first | rfl | simp [*], grownBy_trans HW.out g2⟩
      case measure => simp [intOf]; omega
    · have hkd : k = d := by omega
      subst hkd
      have d1 : ¬ (k : Int) < (k : Int) := by omega
      go_wp2_with fail
      go_ret
      exact ⟨rfl, HW.out⟩

set_option maxRecDepth 100000 in
set_option maxHeartbeats 1600000 in
theorem below_any (a b : ByteArray) (ha : a.size ≤ maxLen) (hb : b.size ≤ maxLen) (m : Nat) (hm8 : m ≤ 128) (w : World) :
    Calls Tryz.prog 110 #[.string a, .string b, .int .i64 m] w fun e w' => e = .returned (.bool (belowB a b m)) ∧ w.grownBy w' none := by
  have HA := Lib.hid (fun (i : Nat) (hi : i ≤ 128) (w : World) => bit_any a ha i (by omega) w)
  have HB := Lib.hid (fun (i : Nat) (hi : i ≤ 128) (w : World) => bit_any b hb i (by omega) w)
  have h1 : ¬ (128 : Int) < (m : Int) := by omega
  have h2 : (m : Int) ≤ 128 := by omega
  clear ha hb
  go_enter Tryz.func110, Tryz.ntmps110
  go_wp2_with fail
  go_loopw [7, 10, 11, 12, 13, 14, 15, 16, 17, 18, 19, 20] (fun _ iv _ _ _ _ _ _ _ _ _ _ wr => ∃ (k : Nat), k ≤ m ∧ iv = .int .i64 k ∧ Hid (belowB a b k = true) ∧ Hid (w.grownBy wr none)) (fun _ iv _ _ _ _ _ _ _ _ _ _ _ => m - (intOf iv).toNat)
  case atStart => exact ⟨0, Nat.zero_le _, rfl, rfl, World.grownBy.refl _ _⟩
  case round =>
    obtain ⟨k, hk, rfl, HK, HW⟩ := hrel
    by_cases hlt : k < m
    · have d1 : (k : Int) < (m : Int) := by omega
      have hs := belowB_succ a b k
      rw [HK.out, Bool.true_and] at hs
      have H1 := Lib.hid (HA.out k (by omega))
      have H2 := Lib.hid (HB.out k (by omega))
      by_cases hxy : bitS a k = bitS b k
      · have e1 : ((bitS a k : Nat) : Int) = ((bitS b k : Nat) : Int) := by rw [hxy]
        rw [hxy, beq_self_eq_true] at hs
        have HS := Lib.hid hs
        clear hs
        have e2 : (((bitS a k : Nat) : Int) != ((bitS b k : Nat) : Int)) = false := by rw [e1]; simp
        generalize bitS a k = x at *
        generalize bitS b k = y at *
        go_wp2_with fail
        refine (H1.out _).mono ?_
        rintro e w2 ⟨rfl, g2⟩
        go_wp2_with fail
        refine (H2.out _).mono ?_
        rintro e w3 ⟨rfl, g3⟩
        go_wp2_with fail
        go_roundw
        case rel => exact ⟨k + 1, by omega, by go_num, HS.out, grownBy_trans HW.out (grownBy_trans g2 g3)⟩
        case measure => simp [intOf]; omega
      · have hf : belowB a b m = false := by
          cases h : belowB a b m with
          | false => rfl
          | true => exact absurd ((belowB_iff a b m).1 h k hlt) hxy
        have e2 : (((bitS a k : Nat) : Int) != ((bitS b k : Nat) : Int)) = true := by simp; omega
        have HF := Lib.hid hf
        clear hs hf
        generalize bitS a k = x at *
        generalize bitS b k = y at *
        go_wp2_with fail
        refine (H1.out _).mono ?_
        rintro e w2 ⟨rfl, g2⟩
        go_wp2_with fail
        refine (H2.out _).mono ?_
        rintro e w3 ⟨rfl, g3⟩
        go_wp2_with fail
        go_ret
        exact ⟨by rw [HF.out]; rfl, grownBy_trans HW.out (grownBy_trans g2 g3)⟩
    · have hkd : k = m := by omega
      subst hkd
      have d1 : ¬ (k : Int) < (k : Int) := by omega
      go_wp2_with fail
      go_ret
      exact ⟨by rw [HK.out]; rfl, HW.out⟩

set_option maxRecDepth 100000 in
set_option maxHeartbeats 1600000 in
theorem common_any (a b : ByteArray) (ha : a.size ≤ 1000000000) (m : Nat) (hm : a.size = m) (hmb : b.size = m) (w : World) :
    Calls Tryz.prog 158 #[.string a, .string b] w fun e w' => ∃ k : Nat, e = .returned (.int .i64 k) ∧ (k ≤ 8 * m ∧ belowB a b k = true ∧ (k < 8 * m → bitS a k ≠ bitS b k)) ∧ w.grownBy w' none := by
  have HA := Lib.hid (fun (i : Nat) (hi : i ≤ 8 * m) (w : World) => bit_any a (by unfold maxLen; omega) i (by omega) w)
  have HB := Lib.hid (fun (i : Nat) (hi : i ≤ 8 * m) (w : World) => bit_any b (by unfold maxLen; omega) i (by omega) w)
  have h1 : ¬ (b.size : Int) < (a.size : Int) := by omega
  have h3 : (a.size : Int) = (m : Int) := by omega
  have h4 : (b.size : Int) = (m : Int) := by omega
  have hm8 : m ≤ 1000000000 := by omega
  obtain ⟨N, hN⟩ : ∃ N, 8 * m = N := ⟨_, rfl⟩
  rw [hN] at HA HB ⊢
  have h2 : 8 * (m : Int) = (N : Int) := by omega
  have hN8 : N ≤ 8000000000 := by omega
  clear hN
  go_enter Tryz.func158, Tryz.ntmps158
  go_wp2_with fail
  go_loopw [6, 14, 15, 16, 17, 18, 19, 20, 21, 22, 23, 25] (fun _ iv _ _ _ _ _ _ _ _ _ _ wr => ∃ (k : Nat), k ≤ N ∧ iv = .int .i64 k ∧ Hid (belowB a b k = true) ∧ Hid (w.grownBy wr none)) (fun _ iv _ _ _ _ _ _ _ _ _ _ _ => N - (intOf iv).toNat)
  case atStart => exact ⟨0, Nat.zero_le _, rfl, rfl, World.grownBy.refl _ _⟩
  case round =>
    obtain ⟨k, hk, rfl, HK, HW⟩ := hrel
    by_cases hlt : k < N
    · have d1 : (k : Int) < (N : Int) := by omega
      have hs := belowB_succ a b k
      rw [HK.out, Bool.true_and] at hs
      have H1 := Lib.hid (HA.out k (by omega))
      have H2 := Lib.hid (HB.out k (by omega))
      by_cases hxy : bitS a k = bitS b k
      · have e1 : ((bitS a k : Nat) : Int) = ((bitS b k : Nat) : Int) := by rw [hxy]
        rw [hxy, beq_self_eq_true] at hs
        have HS := Lib.hid hs
        clear hs
        have e2 : (((bitS a k : Nat) : Int) != ((bitS b k : Nat) : Int)) = false := by rw [e1]; simp
        generalize bitS a k = x at H1 H2 e1 e2
        generalize bitS b k = y at H1 H2 e1 e2
        go_wp2_with fail
        refine (H1.out _).mono ?_
        rintro e w2 ⟨rfl, g2⟩
        go_wp2_with fail
        refine (H2.out _).mono ?_
        rintro e w3 ⟨rfl, g3⟩
        go_wp2_with fail
        go_roundw
        case rel => exact ⟨k + 1, by omega, by go_num, HS.out, grownBy_trans HW.out (grownBy_trans g2 g3)⟩
        case measure => simp [intOf]; omega
      · have e2 : (((bitS a k : Nat) : Int) != ((bitS b k : Nat) : Int)) = true := by simp; omega
        have HXY := Lib.hid hxy
        clear hs hxy
        obtain ⟨x, hx⟩ : ∃ x, bitS a k = x := ⟨_, rfl⟩
        obtain ⟨y, hy⟩ : ∃ y, bitS b k = y := ⟨_, rfl⟩
        rw [hx] at H1 e2
        rw [hy] at H2 e2
        clear hx hy
        go_wp2_with fail
        refine (H1.out _).mono ?_
        rintro e w2 ⟨rfl, g2⟩
        go_wp2_with fail
        refine (H2.out _).mono ?_
        rintro e w3 ⟨rfl, g3⟩
        go_wp2_with fail
        go_ret
        exact ⟨k, rfl, ⟨hk, HK.out, fun _ => HXY.out⟩, grownBy_trans HW.out (grownBy_trans g2 g3)⟩
    · have hkd : k = N := by omega
      subst hkd
      have d1 : ¬ (k : Int) < (k : Int) := by omega
      go_wp2_with fail
      go_ret
      exact ⟨k, rfl, ⟨hk, HK.out, fun h => absurd h (by omega)⟩, HW.out⟩
end Go.Proofs.YtbhoeiopckmfhaaGreatDoor

namespace Go.Proofs.YtbhoeiopckmfhaaGreatDoor
open Go.RowKit

/-- the bit of a row of bytes -/
def bitL (l : List UInt8) (i : Nat) : Nat := ((l[i / 8]?).getD 0).toNat / 2 ^ (7 - i % 8) % 2
theorem bitS_str (l : List UInt8) (i : Nat) : bitS (str l) i = bitL l i := rfl
theorem bit_test (x j : Nat) : x / 2 ^ j % 2 = (x.testBit j).toNat := (Nat.toNat_testBit x j).symm
theorem bitL_set (l : List UInt8) (q r c b : Nat) (hq : q < l.length) (hr : r < 8) (hc : ((l[q]?).getD 0).toNat = c) (hb : b ≤ 1) (h0 : bitL l (8 * q + r) = 0) (i : Nat) :
    bitL (l.set q (UInt8.ofNat (c ||| b * 2 ^ (7 - r)))) i = if i = 8 * q + r then b else bitL l i := by
  have hp : 2 ^ (7 - r) ≤ 128 := Nat.le_trans (Nat.pow_le_pow_right (by decide) (by omega : 7 - r ≤ 7)) (by decide)
  have hbp : b * 2 ^ (7 - r) < 256 := by
    have : b * 2 ^ (7 - r) ≤ 1 * 2 ^ (7 - r) := Nat.mul_le_mul_right _ hb
    omega
  have hc8 : c < 256 := by rw [← hc]; exact UInt8.toNat_lt _
  have hor : c ||| b * 2 ^ (7 - r) < 256 := Nat.or_lt_two_pow (n := 8) hc8 hbp
  unfold bitL at h0 ⊢
  rw [show (8 * q + r) / 8 = q from by omega, show (8 * q + r) % 8 = r from by omega, hc, bit_test] at h0
  by_cases hiq : i / 8 = q
  · rw [hiq, List.getElem?_set_self hq, Option.getD_some, UInt8.toNat_ofNat_of_lt' hor, hc, bit_test, bit_test, Nat.testBit_or]
    have hbt : (b * 2 ^ (7 - r)).testBit (7 - i % 8) = (decide (7 - r = 7 - i % 8) && decide (b = 1)) := by
      rcases (by omega : b = 0 ∨ b = 1) with rfl | rfl
      · simp
      · rw [Nat.one_mul, Nat.testBit_two_pow]; simp
    rw [hbt]
    by_cases hir : i % 8 = r
    · rw [if_pos (by omega), hir]
      have : c.testBit (7 - r) = false := by
        cases h : c.testBit (7 - r) with
        | false => rfl
        | true => rw [h] at h0; simp at h0
      rw [this]
      rcases (by omega : b = 0 ∨ b = 1) with rfl | rfl <;> simp
    · rw [if_neg (by omega)]
      have : decide (7 - r = 7 - i % 8) = false := by simp; omega
      rw [this]
      simp
  · rw [List.getElem?_set_ne (fun e => hiq e.symm), if_neg (by omega)]

theorem bytesV_set (l : List UInt8) (q : Nat) (u : UInt8) : (bytesV l).toArray.setIfInBounds q (.int .u8 u.toNat) = (bytesV (l.set q u)).toArray := by
  apply Array.toList_inj.1
  simp [bytesV, List.map_set]

set_option maxRecDepth 100000 in
set_option maxHeartbeats 3200000 in
theorem first_any (b d : Nat) (hd : d ≤ 16) (hb : b < 2 ^ d) (w : World) :
    Calls Tryz.prog 62 #[.int .i64 b, .int .i64 d] w fun e w' => ∃ l : List UInt8, e = .returned (.string (str l)) ∧ (l.length = 16 ∧ ∀ i, bitL l i = if i < d then b / 2 ^ (d - 1 - i) % 2 else 0) ∧ w.grownBy w' none := by
  have HM := Lib.hid (bands_any d (by omega))
  have h16 : decide (d ≤ 16) = true := by simp [hd]
  rw [h16] at HM
  have hcap := band_cap d hd
  have hZ : ∃ Z, 2 ^ d = Z := ⟨_, rfl⟩
  obtain ⟨Z, hZ⟩ := hZ
  have e1 : (2 : Int) ^ d = (Z : Int) := by rw [← hZ]; simp
  rw [hZ] at hb hcap
  have e2 := wrap_i64_nat Z (by omega)
  have e3 : ¬ (Z : Int) ≤ (b : Int) := by omega
  have e4 : ¬ (b : Int) < 0 := by omega
  have e5 : (0 : Int) ≤ (d : Int) := by omega
  have hbb : b < 65536 := by omega
  clear h16 hZ hcap
  go_enter Tryz.func62, Tryz.ntmps62
  go_wp2_with fail
  obtain ⟨B, hB⟩ : ∃ B, w.heap.size = B := ⟨_, rfl⟩
  rw [hB]
  obtain ⟨w1, hW1⟩ : ∃ w1, w.alloc (.cells #[.int .u8 0, .int .u8 0, .int .u8 0, .int .u8 0, .int .u8 0, .int .u8 0, .int .u8 0, .int .u8 0, .int .u8 0, .int .u8 0, .int .u8 0, .int .u8 0, .int .u8 0, .int .u8 0, .int .u8 0, .int .u8 0] 196) = w1 := ⟨_, rfl⟩
  rw [hW1]
  have hk1 : w1.heap[B]? = some (.cells (bytesV (List.replicate 16 0)).toArray 196 (0, 0)) := by rw [← hW1]; exact heap_alloc_at _ _ _ hB
  have hg1 : w.grownBy w1 none := by rw [← hW1]; exact World.grownBy_alloc _ _ _
  have HK1 := Lib.hid hk1
  have HG1 := Lib.hid hg1
  have HB := Lib.hid hB
  clear hk1 hg1 hB hW1
  refine (HM.out _).mono ?_
  rintro e w2 ⟨rfl, rfl⟩
  clear HM
  go_wp2_with fail
  generalize Value.bool (decide ((b : Int) < 0) || decide (Z ≤ b)) = d2
  generalize Value.bool (decide (Z ≤ b)) = d1
  generalize Value.bool (decide ((b : Int) < 0)) = d3
  clear e1 e2 e3 e4 hb
  go_loopw [6, 7, 24, 25, 26, 27, 28, 29, 30, 31, 32, 33, 34, 35, 36, 37, 38, 39, 40, 41, 42, 43, 44, 45] (fun _ _ iv _ _ _ _ _ _ _ _ _ _ _ _ _ _ _ _ _ _ _ _ _ wr => ∃ (k : Nat) (l : List UInt8), k ≤ d ∧ iv = .int .i64 k ∧ Hid (l.length = 16 ∧ ∀ i, bitL l i = if i < k then b / 2 ^ (d - 1 - i) % 2 else 0) ∧ Hid (wr.heap[B]? = some (.cells (bytesV l).toArray 196 (0, 0))) ∧ Hid (w.grownBy wr none)) (fun _ _ iv _ _ _ _ _ _ _ _ _ _ _ _ _ _ _ _ _ _ _ _ _ _ => d - (intOf iv).toNat)
  case atStart =>
    refine ⟨0, List.replicate 16 0, Nat.zero_le _, rfl, ⟨rfl, fun i => ?_⟩, HK1.out, HG1.out⟩
    rw [if_neg (by omega)]
    unfold bitL
    by_cases h : i / 8 < 16
    · rw [List.getElem?_replicate, if_pos h]; simp
    · rw [List.getElem?_replicate, if_neg h]; simp
  case round =>
    clear HK1 HG1
    obtain ⟨k, l, hk, rfl, HL, HW, HG⟩ := hrel
    by_cases hlt : k < d
    · have d1 : (k : Int) < (d : Int) := by omega
      obtain ⟨q, hq⟩ : ∃ q, k / 8 = q := ⟨_, rfl⟩
      obtain ⟨r, hr⟩ : ∃ r, k % 8 = r := ⟨_, rfl⟩
      have hkq : k = 8 * q + r := by omega
      have hql : q < l.length := by rw [HL.out.1]; omega
      obtain ⟨c, hc⟩ : ∃ c, ((l[q]?).getD 0).toNat = c := ⟨_, rfl⟩
      have hc8 : c < 256 := by rw [← hc]; exact UInt8.toNat_lt _
      have f1 : (d : Int) - 1 - (k : Int) = ((d - 1 - k : Nat) : Int) := by omega
      obtain ⟨m, hm⟩ : ∃ m, b / 2 ^ (d - 1 - k) = m := ⟨_, rfl⟩
      have hmb : m < 65536 := by rw [← hm]; exact Nat.lt_of_le_of_lt (Nat.div_le_self _ _) hbb
      have f2 : (b : Int) / 2 ^ (d - 1 - k) = (m : Int) := by rw [← hm, Int.natCast_ediv]; simp
      have hset := bitL_set l q r c (m % 2) hql (by omega) hc (by omega) (by rw [← hkq, HL.out.2 k, if_neg (by omega)])
      have hnew : ∀ i, bitL (l.set q (UInt8.ofNat (c ||| m % 2 * 2 ^ (7 - r)))) i = if i < k + 1 then b / 2 ^ (d - 1 - i) % 2 else 0 := by
        intro i
        rw [hset, ← hkq]
        by_cases hik : i = k
        · rw [if_pos hik, if_pos (by omega), hik, hm]
        · rw [if_neg hik, HL.out.2 i]
          by_cases hik2 : i < k
          · rw [if_pos hik2, if_pos (by omega)]
          · rw [if_neg hik2, if_neg (by omega)]
      clear hset
      have HNEW := Lib.hid hnew
      have HP := Lib.hid (fun w => bplace_any r q (by omega) k hkq (by omega) w)
      have hp7 : 7 - r ≤ 7 := by omega
      generalize 7 - r = p at HNEW HP hp7
      have hpp : 2 ^ p ≤ 128 := Nat.le_trans (Nat.pow_le_pow_right (by decide) hp7) (by decide)
      obtain ⟨β, hβ⟩ : ∃ β, m % 2 = β := ⟨_, rfl⟩
      rw [hβ] at HNEW
      have hβ1 : β ≤ 1 := by omega
      obtain ⟨s, hs⟩ : ∃ s, β * 2 ^ p = s := ⟨_, rfl⟩
      have hs8 : s < 256 := by
        have : β * 2 ^ p ≤ 1 * 2 ^ p := Nat.mul_le_mul_right _ hβ1
        omega
      have f3 : (β : Int) * 2 ^ p = (s : Int) := by rw [← hs]; simp
      rw [hs] at HNEW
      have f4 := u8_or_nat c s hc8 hs8
      have hor : c ||| s < 256 := Nat.or_lt_two_pow (n := 8) hc8 hs8
      obtain ⟨v, hv⟩ : ∃ v, c ||| s = v := ⟨_, rfl⟩
      rw [hv] at f4 hor HNEW
      have f5 : (k : Int) / 8 = (q : Int) := by omega
      have f6 := wrap_i64_nat q (by omega)
      have f7 : (q : Int) < 16 := by omega
      have f8 : (0 : Int) ≤ (q : Int) := by omega
      have f9 : IntKind.u8.wrap (s : Int) = (s : Int) := by simp only [IntKind.wrap, IntKind.bits, IntKind.signed]; simp; omega
      have f10 : IntKind.u8.wrap (m : Int) = ((m % 256 : Nat) : Int) := by simp only [IntKind.wrap, IntKind.bits, IntKind.signed]; simp
      have f11 := u8_and_nat (m % 256) 1 (by omega) (by decide)
      rw [Nat.and_one_is_mod, show m % 256 % 2 = β from by omega] at f11
      have f11' : bits .and .u8 ((m : Int) % 256) 1 = (β : Int) := by rw [show ((m : Int) % 256) = ((m % 256 : Nat) : Int) from by omega]; exact f11
      have f12 : (p : Int) ≤ 7 := by omega
      have f13 : (0 : Int) ≤ (p : Int) := by omega
      have c0 : wr.cell? ⟨B, q, none⟩ = some (.int .u8 c) := by
        rw [cell_of HW.out, List.getElem?_toArray, bytesV, List.getElem?_map, List.getElem?_eq_getElem hql, ← hc, List.getElem?_eq_getElem hql]; rfl
      have c1 : wr.frozen? ⟨B, q, none⟩ = false := free_of HW.out q
      have c0' : wr.drew.cell? ⟨B, q, none⟩ = some (.int .u8 c) := c0
      have c1' : wr.drew.frozen? ⟨B, q, none⟩ = false := c1
      have HV := Lib.hid (And.intro hor hql)
      clear hq hr hkq hc hm hmb hnew hβ hβ1 hs hv hor hql hpp
      go_wp2_with fail
      go_region_with ((go_at_call 112; refine (HP.out _).mono ?_; rintro e w3 ⟨rfl, rfl⟩))
      all_goals
        go_wp2_with fail
        go_roundw
        case rel =>
          refine ⟨k + 1, l.set q (UInt8.ofNat v), by omega, by go_num, ⟨by rw [List.length_set]; exact HL.out.1, HNEW.out⟩, ?_, ?_⟩
          · show (wr.setCell _ _).heap[B]? = _
            rw [heap_setCell HW.out, ← bytesV_set, UInt8.toNat_ofNat_of_lt' HV.out.1]
          · exact grownBy_drew (grownBy_setNew HG.out (by have := HB.out; omega) _ _)
        case measure => simp [intOf]; omega
    · have hkd : k = d := by omega
      subst hkd
      have d1 : ¬ (k : Int) < (k : Int) := by omega
      have hsl := slice_sixteen B wr
      have hst := blk_str HW.out 16
      rw [HL.out.1] at hst
      go_wp2_with fail
      go_ret
      exact ⟨l, rfl, HL.out, HG.out⟩

def noughts16 : ByteArray := str (List.replicate 16 0)
set_option maxRecDepth 100000 in
set_option maxHeartbeats 1600000 in
/-- no such band -/
theorem first_no (b d : Int) (h : (d < 0 ∨ 16 < d) ∨ (b < 0 ∨ ∃ Z : Nat, (2 : Int) ^ d.toNat = (Z : Int) ∧ (Z : Int) ≤ b)) (hb : b ≤ 9223372036854775807) (hd : d ≤ 9223372036854775807) (w : World) :
    Calls Tryz.prog 62 #[.int .i64 b, .int .i64 d] w fun e w' => e = .returned (.string noughts16) ∧ w.grownBy w' none := by
  have hM : ∃ g : Bool, (g = decide (0 ≤ d ∧ d ≤ 16)) ∧ ∀ w : World, Calls Tryz.prog 63 #[.int .i64 d] w fun e w' => e = .returned (.bool g) ∧ w = w' := by
    by_cases h0 : d < 0
    · exact ⟨false, by simp; omega, fun w => bands_neg d h0 w⟩
    · obtain ⟨n, rfl⟩ : ∃ n : Nat, d = (n : Int) := ⟨d.toNat, by omega⟩
      exact ⟨_, by rw [Bool.eq_iff_iff]; simp; omega, fun w => bands_any n (by omega) w⟩
  obtain ⟨g, hg, hM⟩ := hM
  have HM := Lib.hid hM
  have H0 := Lib.hid hg
  have HH := Lib.hid h
  clear hM h hg
  have fin : ∀ (B : Nat) (w1 : World), w1.heap[B]? = some (.cells (bytesV (List.replicate 16 0)).toArray 196 (0, 0)) → (convert 23 9 (.slice (some ⟨B, 0, none⟩) 16 16)).run Tryz.prog w1 = .ok (.string noughts16) w1 := fun B w1 hk => blk_str hk 16
  have HF := Lib.hid fin
  clear fin
  go_enter Tryz.func62, Tryz.ntmps62
  go_wp2_with fail
  obtain ⟨B, hB⟩ : ∃ B, w.heap.size = B := ⟨_, rfl⟩
  rw [hB]
  obtain ⟨w1, hW1⟩ : ∃ w1, w.alloc (.cells #[.int .u8 0, .int .u8 0, .int .u8 0, .int .u8 0, .int .u8 0, .int .u8 0, .int .u8 0, .int .u8 0, .int .u8 0, .int .u8 0, .int .u8 0, .int .u8 0, .int .u8 0, .int .u8 0, .int .u8 0, .int .u8 0] 196) = w1 := ⟨_, rfl⟩
  rw [hW1]
  have hk1 : w1.heap[B]? = some (.cells (bytesV (List.replicate 16 0)).toArray 196 (0, 0)) := by rw [← hW1]; exact heap_alloc_at _ _ _ hB
  have hg1 : w.grownBy w1 none := by rw [← hW1]; exact World.grownBy_alloc _ _ _
  have hst := HF.out B w1 hk1
  have HG1 := Lib.hid hg1
  clear hk1 hg1 hB hW1
  have hsl := slice_sixteen B w1
  refine (HM.out _).mono ?_
  rintro e w2 ⟨rfl, rfl⟩
  cases g with
  | false =>
    go_wp2_with fail
    go_ret
    exact ⟨rfl, HG1.out⟩
  | true =>
    have hdd := H0.out
    simp only [Bool.true_eq, decide_eq_true_eq] at hdd
    obtain ⟨n, rfl⟩ : ∃ n : Nat, d = (n : Int) := ⟨d.toNat, by omega⟩
    have e5 : (0 : Int) ≤ (n : Int) := by omega
    rcases HH.out with h | h | ⟨Z, hZ, hZb⟩
    · omega
    · go_wp2_with fail
      go_ret
      exact ⟨rfl, HG1.out⟩
    · by_cases hb0 : b < 0
      · go_wp2_with fail
        go_ret
        exact ⟨rfl, HG1.out⟩
      · rw [Int.toNat_natCast] at hZ
        have e2 := wrap_i64_nat Z (by omega)
        have e6 : (n : Int) ≤ 16 := hdd.2
        go_wp2_with fail
        go_ret
        exact ⟨rfl, HG1.out⟩

end Go.Proofs.YtbhoeiopckmfhaaGreatDoor

namespace Go.Proofs.YtbhoeiopckmfhaaGreatDoor
open Go.RowKit

theorem bandN_same (a b : ByteArray) : ∀ d, (∀ i, i < d → bitS a i = bitS b i) → bandN a d = bandN b d
  | 0, _ => rfl
  | d + 1, h => by rw [bandN, bandN, bandN_same a b d (fun i hi => h i (by omega)), h d (by omega)]
theorem bandN_less (a b : ByteArray) (k : Nat) (h : ∀ i, i < k → bitS a i = bitS b i) (h0 : bitS a k = 0) (h1 : bitS b k = 1) : ∀ d, k < d → bandN a d < bandN b d
  | 0, hd => by omega
  | d + 1, hd => by
    rw [bandN, bandN]
    by_cases e : k = d
    · subst e
      rw [bandN_same a b k h, h0, h1]; omega
    · have := bandN_less a b k h h0 h1 d (by omega)
      have := bitS_le a d
      omega
theorem bandN_bit (a : ByteArray) : ∀ d i, i < d → bandN a d / 2 ^ (d - 1 - i) % 2 = bitS a i
  | 0, i, h => by omega
  | d + 1, i, h => by
    have hb := bitS_le a d
    rw [bandN]
    by_cases e : i = d
    · subst e
      rw [show i + 1 - 1 - i = 0 from by omega, Nat.pow_zero, Nat.div_one]; omega
    · have ih := bandN_bit a d i (by omega)
      rw [show d + 1 - 1 - i = (d - 1 - i) + 1 from by omega, Nat.pow_succ, Nat.mul_comm (2 ^ _) 2, ← Nat.div_div_eq_div_mul, show (2 * bandN a d + bitS a d) / 2 = bandN a d from by omega]
      exact ih
/-- a text with the bits of a band's number has that band -/
theorem band_of_bits (s : ByteArray) (b d : Nat) (h : ∀ i, i < d → bitS s i = b / 2 ^ (d - 1 - i) % 2) : ∀ k, k ≤ d → bandN s k = b / 2 ^ (d - k) % 2 ^ k
  | 0, _ => by rw [Nat.pow_zero, Nat.mod_one]; rfl
  | k + 1, hk => by
    rw [bandN, band_of_bits s b d h k (by omega), h k (by omega), show d - 1 - k = d - (k + 1) from by omega, show d - k = (d - (k + 1)) + 1 from by omega, Nat.pow_succ 2 (d - (k + 1)), ← Nat.div_div_eq_div_mul]
    generalize b / 2 ^ (d - (k + 1)) = x
    rw [Nat.pow_succ, Nat.mul_comm (2 ^ k) 2, Nat.mod_mul]
    omega
/-- bytes of the same bits are the same -/
theorem top_bits (a b r : Nat) (ha : a < 256) (hb : b < 256) : ∀ m, m ≤ 8 → (∀ j, j < m → a / 2 ^ (7 - j) % 2 = b / 2 ^ (7 - j) % 2) → a / 2 ^ (8 - m) = b / 2 ^ (8 - m)
  | 0, _, _ => by rw [show 2 ^ (8 - 0) = 256 from rfl]; omega
  | m + 1, hm, h => by
    have ih := top_bits a b r ha hb m (by omega) (fun j hj => h j (by omega))
    have h1 := h m (by omega)
    rw [show 8 - m = (7 - m) + 1 from by omega, Nat.pow_succ, ← Nat.div_div_eq_div_mul, ← Nat.div_div_eq_div_mul] at ih
    rw [show 8 - (m + 1) = 7 - m from by omega]
    omega
theorem bitL_byte (l : List UInt8) (q j : Nat) (h : j < 8) : bitL l (8 * q + j) = ((l[q]?).getD 0).toNat / 2 ^ (7 - j) % 2 := by
  unfold bitL
  rw [show (8 * q + j) / 8 = q from by omega, show (8 * q + j) % 8 = j from by omega]
theorem byte_same (l m : List UInt8) (q : Nat) (h : ∀ i, i < 8 → bitL l (8 * q + i) = bitL m (8 * q + i)) : (l[q]?).getD 0 = (m[q]?).getD 0 := by
  have := top_bits _ _ 0 (UInt8.toNat_lt ((l[q]?).getD 0)) (UInt8.toNat_lt ((m[q]?).getD 0)) 8 (Nat.le_refl _) (fun j hj => by
    have := h j hj
    rwa [bitL_byte l q j hj, bitL_byte m q j hj] at this)
  rw [show 2 ^ (8 - 8) = 1 from rfl, Nat.div_one, Nat.div_one] at this
  exact UInt8.toNat_inj.1 this
theorem bits_all (l m : List UInt8) (n : Nat) (hl : l.length = n) (hm : m.length = n) (h : ∀ i, i < 8 * n → bitL l i = bitL m i) : l = m := by
  apply List.ext_getElem (by omega)
  intro q h1 h2
  have := byte_same l m q (fun i hi => h _ (by omega))
  rwa [List.getElem?_eq_getElem h1, List.getElem?_eq_getElem h2] at this
/-- the first bit that is not the same tells the order -/
theorem less_cons (x y : UInt8) (l m : List UInt8) : Op.bytesLess (x :: l) (y :: m) = (decide (x < y) || (x == y && Op.bytesLess l m)) := rfl
theorem less_first : ∀ (q : Nat) (l m : List UInt8), l.length = m.length → q < l.length → (∀ i, i < q → (l[i]?).getD 0 = (m[i]?).getD 0) → (l[q]?).getD 0 < (m[q]?).getD 0 → Op.bytesLess l m = true ∧ Op.bytesLess m l = false
  | _, [], _, _, h, _, _ => by simp at h
  | _, _ :: _, [], h, _, _, _ => by simp at h
  | 0, x :: l, y :: m, _, _, _, h => by
    have hxy : x < y := by simpa using h
    have h2 := UInt8.lt_iff_toNat_lt.1 hxy
    rw [less_cons, less_cons]
    constructor
    · simp [hxy]
    · have h3 : ¬ y < x := by rw [UInt8.lt_iff_toNat_lt]; omega
      have h4 : (y == x) = false := by
        rw [beq_eq_false_iff_ne]
        rintro rfl
        omega
      simp [h3, h4]
  | q + 1, x :: l, y :: m, hl, hq, hs, h => by
    have h0 := hs 0 (by omega)
    have hxy : x = y := by simpa using h0
    subst hxy
    obtain ⟨i1, i2⟩ := less_first q l m (by simpa using hl) (by simpa using hq) (fun i hi => by simpa using hs (i + 1) (by omega)) (by simpa using h)
    have h3 : ¬ x < x := by rw [UInt8.lt_iff_toNat_lt]; omega
    rw [less_cons, less_cons, i1, i2]
    simp [h3]
theorem less_of_bit (l m : List UInt8) (k : Nat) (hl : l.length = m.length) (hk : k < 8 * l.length) (hs : ∀ i, i < k → bitL l i = bitL m i) (h0 : bitL l k = 0) (h1 : bitL m k = 1) : Op.bytesLess l m = true ∧ Op.bytesLess m l = false := by
  obtain ⟨q, hq⟩ : ∃ q, k / 8 = q := ⟨_, rfl⟩
  obtain ⟨r, hr⟩ : ∃ r, k % 8 = r := ⟨_, rfl⟩
  have hkq : k = 8 * q + r := by omega
  subst hkq
  refine less_first q l m hl (by omega) (fun i hi => byte_same l m i (fun j hj => hs _ (by omega))) ?_
  rw [bitL_byte l q r (by omega)] at h0
  rw [bitL_byte m q r (by omega)] at h1
  have ht := top_bits _ _ 0 (UInt8.toNat_lt ((l[q]?).getD 0)) (UInt8.toNat_lt ((m[q]?).getD 0)) r (by omega) (fun j hj => by
    have := hs (8 * q + j) (by omega)
    rwa [bitL_byte l q j (by omega), bitL_byte m q j (by omega)] at this)
  rw [UInt8.lt_iff_toNat_lt]
  generalize ((l[q]?).getD 0).toNat = a at h0 ht ⊢
  generalize ((m[q]?).getD 0).toNat = b at h1 ht ⊢
  rw [show 8 - r = (7 - r) + 1 from by omega, Nat.pow_succ, ← Nat.div_div_eq_div_mul, ← Nat.div_div_eq_div_mul] at ht
  rcases Nat.lt_or_ge a b with h | h
  · exact h
  · have := Nat.div_le_div_right (c := 2 ^ (7 - r)) h
    omega
/-- what the two texts' order says of the first bit that is not the same -/
theorem order_bit (p q : List UInt8) (k : Nat) (hp : p.length = 16) (hq : q.length = 16) (hk : k < 128) (hs : ∀ i, i < k → bitL p i = bitL q i) (hne : bitL p k ≠ bitL q k) (h : Op.bytesLess q p = false) : bitL p k = 0 ∧ bitL q k = 1 := by
  have h1 : bitL p k ≤ 1 := bitS_le (str p) k
  have h2 : bitL q k ≤ 1 := bitS_le (str q) k
  rcases (by omega : (bitL p k = 0 ∧ bitL q k = 1) ∨ (bitL q k = 0 ∧ bitL p k = 1)) with h3 | ⟨h3, h4⟩
  · exact h3
  · rw [(less_of_bit q p k (by omega) (by omega) (fun i hi => (hs i hi).symm) h3 h4).1] at h
    cases h
theorem less_irr : ∀ l : List UInt8, Op.bytesLess l l = false
  | [] => rfl
  | x :: l => by
    have h3 : ¬ x < x := by rw [UInt8.lt_iff_toNat_lt]; omega
    rw [less_cons, less_irr l]
    simp [h3]
theorem less_asym : ∀ l m : List UInt8, Op.bytesLess l m = true → Op.bytesLess m l = false
  | [], [], h => by simp [Op.bytesLess] at h
  | [], _ :: _, _ => rfl
  | _ :: _, [], h => by simp [Op.bytesLess] at h
  | x :: l, y :: m, h => by
    rw [less_cons] at h ⊢
    simp only [Bool.or_eq_true, Bool.and_eq_true, decide_eq_true_eq, beq_iff_eq] at h
    rcases h with h | ⟨rfl, h⟩
    · have h1 := UInt8.lt_iff_toNat_lt.1 h
      have h3 : ¬ y < x := by rw [UInt8.lt_iff_toNat_lt]; omega
      have h4 : (y == x) = false := by
        rw [beq_eq_false_iff_ne]
        rintro rfl
        omega
      simp [h3, h4]
    · have h3 : ¬ x < x := by rw [UInt8.lt_iff_toNat_lt]; omega
      rw [less_asym l m h]
      simp [h3]
theorem str_list (l : List UInt8) : (str l).toList = l := by rw [ByteArray.toList_eq]; rfl
end Go.Proofs.YtbhoeiopckmfhaaGreatDoor

namespace Go.Proofs.YtbhoeiopckmfhaaGreatDoor
attribute [local irreducible] shaL

def emptyS : ByteArray := ⟨#[0]⟩
def leafS (k v : ByteArray) : ByteArray := ⟨#[1]⟩ ++ tagS 9 [k, v]
def bothS (a b : ByteArray) : ByteArray := ⟨#[2]⟩ ++ tagS 10 [a, b]
/-- the first byte of a text, or 0 -/
def headB (s : ByteArray) : UInt8 := (s.data.toList[0]?).getD 0
def leafB (s : ByteArray) : Bool := decide (s.size = 17) && (headB s == 1)
def joinN (a b : ByteArray) : ByteArray := if a = emptyS ∧ (b = emptyS ∨ leafB b = true) then b else if b = emptyS ∧ leafB a = true then a else bothS a b
abbrev PairS := ByteArray × ByteArray
/-- those whose bit there is b -/
def side (b d : Nat) (l : List PairS) : List PairS := l.filter fun x => bitS x.1 d == b
def nodeN : Nat → List PairS → Nat → ByteArray
  | _, [], _ => emptyS
  | _, [x], _ => leafS x.1 x.2
  | 0, _ :: _ :: _, _ => emptyS
  | f + 1, x :: y :: r, d => joinN (nodeN f (side 0 d (x :: y :: r)) (d + 1)) (nodeN f (side 1 d (x :: y :: r)) (d + 1))
theorem nodeN_nil (f d : Nat) : nodeN f [] d = emptyS := by cases f <;> rfl
theorem nodeN_one (f d : Nat) (x : PairS) : nodeN f [x] d = leafS x.1 x.2 := by cases f <;> rfl
theorem nodeN_more (f d : Nat) (l : List PairS) (h : 2 ≤ l.length) : nodeN (f + 1) l d = joinN (nodeN f (side 0 d l) (d + 1)) (nodeN f (side 1 d l) (d + 1)) := by
  match l, h with
  | x :: y :: r, _ => rfl
theorem nodeN_perm : ∀ (f : Nat) (l m : List PairS) (d : Nat), l.Perm m → nodeN f l d = nodeN f m d := by
  intro f
  induction f with
  | zero =>
    intro l m d h
    have hl := h.length_eq
    match l, m, h, hl with
    | [], [], _, _ => rfl
    | [x], [y], h, _ => rw [List.perm_singleton.1 h.symm]
    | x :: y :: r, x' :: y' :: r', _, _ => rfl
  | succ f ih =>
    intro l m d h
    have hl := h.length_eq
    by_cases h2 : 2 ≤ l.length
    · rw [nodeN_more f d l h2, nodeN_more f d m (by omega), ih (side 0 d l) (side 0 d m) _ (h.filter _), ih (side 1 d l) (side 1 d m) _ (h.filter _)]
    · match l, m, h, hl, h2 with
      | [], [], _, _, _ => rfl
      | [x], [y], h, _, _ => rw [List.perm_singleton.1 h.symm]
      | x :: y :: r, _, _, _, h2 => simp at h2
theorem tag16 (t : UInt8) (L : List ByteArray) : (tagS t L).size = 16 := tagS_size _ _
theorem leafS_size (k v : ByteArray) : (leafS k v).size = 17 := by unfold leafS; rw [ByteArray.size_append, tag16]; rfl
theorem bothS_size (a b : ByteArray) : (bothS a b).size = 17 := by unfold bothS; rw [ByteArray.size_append, tag16]; rfl
theorem head_app (c : UInt8) (t : ByteArray) : headB (⟨#[c]⟩ ++ t) = c := by
  unfold headB
  rw [ByteArray.data_append, Array.toList_append]
  rfl
theorem leafS_leaf (k v : ByteArray) : leafB (leafS k v) = true := by
  unfold leafB
  rw [leafS_size, leafS, head_app]
  decide
theorem bothS_leaf (a b : ByteArray) : leafB (bothS a b) = false := by
  unfold leafB
  rw [bothS_size, bothS, head_app]
  decide
theorem emptyS_leaf : leafB emptyS = false := by decide
theorem size_ne {a b : ByteArray} (h : a.size ≠ b.size) : a ≠ b := fun e => h (by rw [e])
theorem leafS_ne (k v : ByteArray) : leafS k v ≠ emptyS := size_ne (by rw [leafS_size]; decide)
theorem bothS_ne (a b : ByteArray) : bothS a b ≠ emptyS := size_ne (by rw [bothS_size]; decide)
/-- a node: empty, a leaf's, or another one -/
inductive NodeS : ByteArray → Prop
  | none : NodeS emptyS
  | leaf (k v : ByteArray) : NodeS (leafS k v)
  | both (a b : ByteArray) : NodeS (bothS a b)
theorem joinN_node {a b : ByteArray} (ha : NodeS a) (hb : NodeS b) : NodeS (joinN a b) := by
  unfold joinN
  split
  · exact hb
  · split
    · exact ha
    · exact .both a b
theorem nodeN_node : ∀ (f : Nat) (l : List PairS) (d : Nat), NodeS (nodeN f l d)
  | 0, [], _ => .none
  | 0, [x], _ => .leaf _ _
  | 0, _ :: _ :: _, _ => .none
  | f + 1, [], _ => .none
  | f + 1, [x], _ => .leaf _ _
  | f + 1, x :: y :: r, d => joinN_node (nodeN_node f _ _) (nodeN_node f _ _)
theorem NodeS.size {a : ByteArray} (h : NodeS a) : a.size ≤ 17 := by
  cases h
  · decide
  · rw [leafS_size]; exact Nat.le_refl _
  · rw [bothS_size]; exact Nat.le_refl _

/-- keys of 16 bytes, no two the same, that begin alike by d bits -/
structure Alike (d : Nat) (l : List PairS) : Prop where
  len : ∀ x ∈ l, x.1.size = 16
  one : l.Pairwise (fun x y => x.1 ≠ y.1)
  bits : ∀ x ∈ l, ∀ y ∈ l, ∀ i, i < d → bitS x.1 i = bitS y.1 i
theorem bits_key {a b : ByteArray} (ha : a.size = 16) (hb : b.size = 16) (h : ∀ i, i < 128 → bitS a i = bitS b i) : a = b := by
  have := bits_all a.data.toList b.data.toList 16 (by rw [Array.length_toList]; exact ha) (by rw [Array.length_toList]; exact hb) (fun i hi => h i (by omega))
  exact ByteArray.ext (Array.toList_inj.1 this)
theorem Alike.few {d : Nat} {l : List PairS} (h : Alike d l) (hd : 128 ≤ d) : l.length ≤ 1 := by
  match l, h with
  | [], _ => simp
  | [x], _ => simp
  | x :: y :: r, h =>
    exfalso
    have h1 := (List.pairwise_cons.1 h.one).1 y (by simp)
    exact h1 (bits_key (h.len x (by simp)) (h.len y (by simp)) (fun i hi => h.bits x (by simp) y (by simp) i (by omega)))
theorem Alike.sub {d : Nat} {l m : List PairS} (h : Alike d l) (hs : m.Sublist l) : Alike d m :=
  ⟨fun x hx => h.len x (hs.subset hx), h.one.sublist hs, fun x hx y hy => h.bits x (hs.subset hx) y (hs.subset hy)⟩
theorem Alike.side {d b : Nat} {l : List PairS} (h : Alike d l) : Alike (d + 1) (side b d l) := by
  have h1 := h.sub (List.filter_sublist (p := fun x => bitS x.1 d == b))
  refine ⟨h1.len, h1.one, fun x hx y hy i hi => ?_⟩
  by_cases hid : i < d
  · exact h1.bits x hx y hy i hid
  · obtain rfl : i = d := by omega
    have e1 := (List.mem_filter.1 hx).2
    have e2 := (List.mem_filter.1 hy).2
    simp at e1 e2
    rw [e1, e2]
theorem Alike.perm {d : Nat} {l m : List PairS} (h : Alike d l) (hp : l.Perm m) : Alike d m :=
  ⟨fun x hx => h.len x (hp.mem_iff.2 hx), (hp.pairwise_iff (fun {_ _} q => Ne.symm q)).1 h.one, fun x hx y hy => h.bits x (hp.mem_iff.2 hx) y (hp.mem_iff.2 hy)⟩
/-- the document's joining, by how many keys are on each side -/
theorem side_all (b d : Nat) (l : List PairS) : side b d (side b d l) = side b d l := by unfold side; rw [List.filter_filter]; congr 1; funext x; simp
theorem side_len (d : Nat) (l : List PairS) : (side 0 d l).length + (side 1 d l).length = l.length := by
  induction l with
  | nil => rfl
  | cons x r ih =>
    have hb := bitS_le x.1 d
    unfold side at ih ⊢
    by_cases h : bitS x.1 d = 0
    · simp [List.filter_cons, h]; omega
    · have h1 : bitS x.1 d = 1 := by omega
      simp [List.filter_cons, h1]; omega
end Go.Proofs.YtbhoeiopckmfhaaGreatDoor

namespace Go.Proofs.YtbhoeiopckmfhaaGreatDoor
open Go.RowKit

set_option maxRecDepth 100000 in
set_option maxHeartbeats 1600000 in
theorem below_over (a b : ByteArray) (ha : a.size ≤ maxLen) (hb : b.size ≤ maxLen) (z : Int) (hz : 128 < z) (w : World) :
    Calls Tryz.prog 110 #[.string a, .string b, .int .i64 z] w fun e w' => e = .returned (.bool (belowB a b 128)) ∧ w.grownBy w' none := by
  have HA := Lib.hid (fun (i : Nat) (hi : i ≤ 128) (w : World) => bit_any a ha i (by omega) w)
  have HB := Lib.hid (fun (i : Nat) (hi : i ≤ 128) (w : World) => bit_any b hb i (by omega) w)
  have h2 : ¬ z ≤ 128 := by omega
  clear ha hb
  go_enter Tryz.func110, Tryz.ntmps110
  go_wp2_with fail
  go_loopw [7, 10, 11, 12, 13, 14, 15, 16, 17, 18, 19, 20] (fun _ iv _ _ _ _ _ _ _ _ _ _ wr => ∃ (k : Nat), k ≤ 128 ∧ iv = .int .i64 k ∧ Hid (belowB a b k = true) ∧ Hid (w.grownBy wr none)) (fun _ iv _ _ _ _ _ _ _ _ _ _ _ => 128 - (intOf iv).toNat)
  case atStart => exact ⟨0, Nat.zero_le _, rfl, rfl, World.grownBy.refl _ _⟩
  case round =>
    obtain ⟨k, hk, rfl, HK, HW⟩ := hrel
    by_cases hlt : k < 128
    · have d1 : (k : Int) < 128 := by omega
      have hs := belowB_succ a b k
      rw [HK.out, Bool.true_and] at hs
      have H1 := Lib.hid (HA.out k (by omega))
      have H2 := Lib.hid (HB.out k (by omega))
      by_cases hxy : bitS a k = bitS b k
      · have e1 : ((bitS a k : Nat) : Int) = ((bitS b k : Nat) : Int) := by rw [hxy]
        rw [hxy, beq_self_eq_true] at hs
        have HS := Lib.hid hs
        clear hs
        have e2 : (((bitS a k : Nat) : Int) != ((bitS b k : Nat) : Int)) = false := by rw [e1]; simp
        generalize bitS a k = x at *
        generalize bitS b k = y at *
        go_wp2_with fail
        refine (H1.out _).mono ?_
        rintro e w2 ⟨rfl, g2⟩
        go_wp2_with fail
        refine (H2.out _).mono ?_
        rintro e w3 ⟨rfl, g3⟩
        go_wp2_with fail
        go_roundw
        case rel => exact ⟨k + 1, by omega, by go_num, HS.out, grownBy_trans HW.out (grownBy_trans g2 g3)⟩
        case measure => simp [intOf]; omega
      · have hf : belowB a b 128 = false := by
          cases h : belowB a b 128 with
          | false => rfl
          | true => exact absurd ((belowB_iff a b 128).1 h k hlt) hxy
        have e2 : (((bitS a k : Nat) : Int) != ((bitS b k : Nat) : Int)) = true := by simp; omega
        have HF := Lib.hid hf
        clear hs hf
        generalize bitS a k = x at *
        generalize bitS b k = y at *
        go_wp2_with fail
        refine (H1.out _).mono ?_
        rintro e w2 ⟨rfl, g2⟩
        go_wp2_with fail
        refine (H2.out _).mono ?_
        rintro e w3 ⟨rfl, g3⟩
        go_wp2_with fail
        go_ret
        exact ⟨by rw [HF.out]; rfl, grownBy_trans HW.out (grownBy_trans g2 g3)⟩
    · have hkd : k = 128 := by omega
      subst hkd
      have d1 : ¬ ((128 : Nat) : Int) < 128 := by omega
      go_wp2_with fail
      go_ret
      exact ⟨by rw [HK.out]; rfl, HW.out⟩
set_option maxRecDepth 100000 in
theorem below_neg (a b : ByteArray) (z : Int) (hz : z < 0) (w : World) :
    Calls Tryz.prog 110 #[.string a, .string b, .int .i64 z] w fun e w' => e = .returned (.bool true) ∧ w.grownBy w' none := by
  have h1 : ¬ (128 : Int) < z := by omega
  have h2 : z ≤ 128 := by omega
  have h3 : ¬ (0 : Int) < z := by omega
  go_enter Tryz.func110, Tryz.ntmps110
  go_wp2_with fail
  refine wp_loop_rounds 1 ?_
  rw [rounds_succ]
  go_wp2_with fail
  go_ret
  exact ⟨rfl, World.grownBy.refl _ _⟩
/-- a depth, from 0 to 128 -/
def capD (z : Int) : Nat := (min (max z 0) 128).toNat
theorem capD_le (z : Int) : capD z ≤ 128 := by unfold capD; omega
theorem below_int (a b : ByteArray) (ha : a.size ≤ maxLen) (hb : b.size ≤ maxLen) (z : Int) (w : World) :
    Calls Tryz.prog 110 #[.string a, .string b, .int .i64 z] w fun e w' => e = .returned (.bool (belowB a b (capD z))) ∧ w.grownBy w' none := by
  by_cases h1 : z < 0
  · have : capD z = 0 := by unfold capD; omega
    rw [this]
    exact below_neg a b z h1 w
  · by_cases h2 : 128 < z
    · have : capD z = 128 := by unfold capD; omega
      rw [this]
      exact below_over a b ha hb z h2 w
    · obtain ⟨m, rfl⟩ : ∃ m : Nat, z = (m : Int) := ⟨z.toNat, by omega⟩
      have : capD (m : Int) = m := by unfold capD; omega
      rw [this]
      exact below_any a b ha hb m (by omega) w
end Go.Proofs.YtbhoeiopckmfhaaGreatDoor
