/- The walks of sha.NewStream and window.Of (where the stream's numbers are small enough). · Layer 21 speaks: the numbers of one stream by the kernel; the walk. · The walk of layer 21's law's choose. · Arguments opened: arrays of bytes, slices of integers. No walk. · A row's post, where the call has only made memory. No walk. -/
import Derived.Test.YtioahjdojgcfdaaDoorWindowMeetsB2
import Derived.Test.YtioahjdojgcfdaaDoorWindowMeetsB1
import Derived.Laws.Bits64b
import Derived.OpenShut
import Derived.WideKeyArr2
import Derived.ChangeSlices
import Derived.Test.YtioahjdojgcfdaaDoorRows
import Derived.WalkKit
import Derived.ProofKit
import Derived.ShutString
namespace Go.Proofs.YtioahjdojgcfdaaDoor
open Go.RowKit
attribute [local irreducible] shaL

theorem ints_setW (L : List Int) (i : Nat) (b : Int) : ints (L.set i b) = (ints L).set i (.int .i64 b) := by simp [ints, List.map_set]
theorem own_keepW {w w' : World} {B n s : Nat} {t : TypeId} {v : Value} {xs : List Value} {row : Option Nat} (h : w.ownsRow B t s v n xs) (k : w.grownBy w' row) (hne : ∀ x, v.ownBlock = some x → row ≠ some x) : w'.ownsRow B t s v n xs := by
  refine ⟨h.1, ?_⟩
  rcases h.2 with h' | ⟨g, cap, cur, rfl, hB, hg, r⟩
  · exact .inl h'
  · exact .inr ⟨g, cap, cur, rfl, hB, (k.block g (Array.getElem?_eq_some_iff.1 hg).1 (fun e => hne g rfl e.symm)).trans hg, r⟩
def StrmS.after (s : StrmS) : Nat → StrmS
  | 0 => s
  | k + 1 => (s.after k).nxt
theorem StrmS.after_ok {s : StrmS} (h : s.ok) : ∀ k, (s.after k).ok
  | 0 => h
  | k + 1 => StrmS.nxt_ok (StrmS.after_ok h k)
set_option maxRecDepth 100000 in
set_option maxHeartbeats 800000 in
theorem stream_new (s : ByteArray) (w : World) :
    Calls Tryd.prog 45 #[.string s] w fun e w' => e = .returned (.pointer (some ⟨w.heap.size, 0, none⟩)) ∧ StrmAt w' w.heap.size ⟨s, 0, []⟩ ∧ w.grownBy w' none := by
  have hb := heap_alloc_at w (.cells #[.string s, .int .u32 0, .string ⟨#[]⟩] 138) _ rfl
  have hg : w.grownBy (w.alloc (.cells #[.string s, .int .u32 0, .string ⟨#[]⟩] 138)) none := World.grownBy_alloc _ _ _
  have HB := Lib.hid (And.intro hb hg)
  clear hb hg
  go_enter Tryd.func45, Tryd.ntmps45
  go_wp2_with fail
  go_ret
  exact ⟨rfl, HB.out⟩
set_option maxRecDepth 100000 in
set_option maxHeartbeats 1600000 in
theorem of_fine (seed : ByteArray) (hs : seed.size ≤ 1000) (n m : Nat) (hn : n ≤ 64) (hm : 1 ≤ m) (hmn : m < n) (w : World) (hr : ShaReady w) (S0 : StrmS) (h0 : S0 = ⟨tagS 17 [seed, str [1]], 0, []⟩) (hnum : ∀ k, k < m → (S0.after k).num < 18446744073709551552) :
    Calls Tryd.prog 11 #[.string seed, .int .i64 1, .int .i64 n, .int .i64 m] w fun e w' => (∃ g c, e = .returned (.tuple #[.slice (some ⟨g, 0, none⟩) m c, .int .i64 0])) ∧ w.grownBy w' none := by
  have hok : S0.ok := by subst h0; exact ⟨by show (tagS 17 [seed, str [1]]).size ≤ _; rw [tagS_size]; decide, by show 0 ≤ 4294967295; decide, 0, rfl, by decide⟩
  have HOK := Lib.hid hok
  have HNUM := Lib.hid hnum
  have HR := Lib.hid hr
  have H0 := Lib.hid h0
  clear hok hnum hr h0
  have hcv : (convert 57 9 (.slice (some ⟨w.heap.size, 0, none⟩) 1 1)).run Tryd.prog (w.alloc (.cells #[.int .u8 1] 5)) = .ok (.string (str [1])) (w.alloc (.cells #[.int .u8 1] 5)) := row_string_w w [Value.int .u8 1] [1] rfl
  have hg1 : w.grownBy (w.alloc (.cells #[.int .u8 1] 5)) none := World.grownBy_alloc _ _ _
  have HG1 := Lib.hid hg1
  have hz1 : (str [1]).size = 1 := rfl
  generalize str [1] = z at hcv hz1 H0
  have ht := tagged_new (w.alloc (.cells #[.int .u8 1] 5)) 17 [seed, z] [.string seed, .string z] 2 17 rfl rfl rfl (HR.out.grown HG1.out) (by simp) (by
    intro s hs'
    rcases List.mem_cons.1 hs' with rfl | hs'
    · omega
    · rw [List.mem_singleton.1 hs']; omega)
  rw [show (w.alloc (.cells #[.int .u8 1] 5)).heap.size = w.heap.size + 1 from by simp] at ht
  have HT := Lib.hid ht
  clear ht
  have n1 : ¬ ((n : Int) < 0) := by omega
  have n2 : ¬ (64 < (n : Int)) := by omega
  have m1 : ¬ ((m : Int) < 1) := by omega
  have m2 : ¬ ((n : Int) < (m : Int)) := by omega
  clear hg1
  go_enter Tryd.func11, Tryd.ntmps11
  go_wp2_with fail
  refine HT.out.mono ?_
  rintro e w2 ⟨rfl, g2⟩
  have HG2 := Lib.hid (grownBy_trans HG1.out g2)
  clear g2 hcv
  go_wp2_with fail
  refine (stream_new _ _).mono ?_
  rintro e w3 ⟨rfl, h3, g3⟩
  rw [← H0.out] at h3
  obtain ⟨sb, hsb⟩ : ∃ sb, w2.heap.size = sb := ⟨_, rfl⟩
  rw [hsb] at h3 ⊢
  have hsb2 : w.heap.size ≤ sb := by rw [← hsb]; exact HG2.out.size
  have HG3 := Lib.hid (grownBy_trans HG2.out g3)
  have H3 := Lib.hid h3
  clear g3 h3 hsb HG2 H0
  go_wp2_with fail
  refine (rising_any n hn w3).mono ?_
  rintro e w4 ⟨rfl, ⟨L0, hL0, ho0⟩, g4⟩
  obtain ⟨rb, hrb⟩ : ∃ rb, w3.heap.size = rb := ⟨_, rfl⟩
  rw [hrb] at ho0 ⊢
  have hsrb : sb < rb := by rw [← hrb]; exact (Array.getElem?_eq_some_iff.1 H3.out).1
  have hsne : sb ≠ rb := Nat.ne_of_lt hsrb
  have H4 := Lib.hid (And.intro (g4.heap H3.out (by simp)) (grownBy_trans HG3.out g4))
  have HO4 := Lib.hid ho0
  clear g4 ho0 hrb H3 HG3
  go_wp2_with fail
  go_loopw [12, 13, 46] (fun _ _ iv wr => ∃ (k : Nat) (L : List Int), k ≤ m ∧ iv = .int .i64 k ∧ L.length = n ∧ Hid (StrmAt wr sb (S0.after k) ∧ wr.ownsRow rb 3 1 (.slice (some ⟨rb, 0, none⟩) n n) n (ints L) ∧ w.grownBy wr none)) (fun _ _ iv _ => m - (intOf iv).toNat)
  case atStart => exact ⟨0, L0, Nat.zero_le _, rfl, hL0, Lib.hid ⟨H4.out.1, HO4.out, H4.out.2⟩⟩
  case round =>
    clear H4 HO4 hL0
    obtain ⟨k, L, hk, rfl, hL, HI⟩ := hrel
    by_cases hlt : k < m
    · obtain ⟨d, hd⟩ : ∃ d, n - k = d := ⟨_, rfl⟩
      have e1 : (n : Int) - (k : Int) = (d : Int) := by omega
      have hd2 : 2 ≤ d ∧ d ≤ 64 := by omega
      have hRr : ShaReady wr := HR.out.grown HI.out.2.2
      have hB := below_any wr sb (S0.after k) d HI.out.1 (StrmS.after_ok HOK.out k) hRr hd2 (HNUM.out k hlt)
      have HB := Lib.hid hB
      have hko := Nat.mod_lt (S0.after k).num (show 0 < d by omega)
      obtain ⟨r, hr⟩ : ∃ r, (S0.after k).num % d = r := ⟨_, rfl⟩
      rw [hr] at HB hko
      have b1 : (0 : Int) ≤ (k : Int) := by omega
      have b2 : (k : Int) < (m : Int) := by omega
      have HKD := Lib.hid hd
      clear hB hRr hd hr
      go_wp2_with fail
      refine HB.out.mono ?_
      rintro e w5 ⟨rfl, h5, g5⟩
      have ho5 : w5.ownsRow rb 3 1 (.slice (some ⟨rb, 0, none⟩) n n) n (ints L) := own_keepW HI.out.2.1 g5 (fun y hy e => hsne (Option.some.inj (e.trans hy.symm)))
      have hg5 : w.grownBy w5 none := grown_new HI.out.2.2 g5 hsb2
      have H5 := Lib.hid h5
      have HG5 := Lib.hid hg5
      obtain ⟨o, ho⟩ : ∃ o, k + r = o := ⟨_, rfl⟩
      have hoe : (k : Int) + (r : Int) = (o : Int) := by omega
      have hon : o < n := by have := HKD.out; omega
      have hkL : k < L.length := by omega
      have hoL : o < L.length := by omega
      have hck : w5.cell? ⟨rb, k, none⟩ = some (.int .i64 L[k]) := by rw [ho5.cellAt k (by omega), ints_at L k hkL]
      have hco : w5.cell? ⟨rb, o, none⟩ = some (.int .i64 L[o]) := by rw [ho5.cellAt o (by omega), ints_at L o hoL]
      have hf := fun i => ho5.frozenAt i
      obtain ⟨xk, hxk⟩ : ∃ x, L[k] = x := ⟨_, rfl⟩
      obtain ⟨xo, hxo⟩ : ∃ x, L[o] = x := ⟨_, rfl⟩
      rw [hxk] at hck
      rw [hxo] at hco
      have own1 : (w5.setCell ⟨rb, k, none⟩ (.int .i64 xo)).ownsRow rb 3 1 (.slice (some ⟨rb, 0, none⟩) n n) n (ints (L.set k xo)) := by
        rw [ints_setW]
        exact (ho5.stored _ _).1
      have hl1 : (L.set k xo).length = n := by rw [List.length_set]; exact hL
      have own2 : ((w5.setCell ⟨rb, k, none⟩ (.int .i64 xo)).setCell ⟨rb, o, none⟩ (.int .i64 xk)).ownsRow rb 3 1 (.slice (some ⟨rb, 0, none⟩) n n) n (ints ((L.set k xo).set o xk)) := by
        rw [ints_setW]
        exact (own1.stored _ _).1
      have hl2 : ((L.set k xo).set o xk).length = n := by rw [List.length_set]; exact hl1
      have hc2 : (w5.setCell ⟨rb, k, none⟩ (.int .i64 xo)).drew.cell? ⟨rb, o, none⟩ = some (.int .i64 (L.set k xo)[o]) := by
        show (w5.setCell ⟨rb, k, none⟩ (.int .i64 xo)).cell? ⟨rb, o, none⟩ = _
        rw [own1.cellAt o (by omega), ints_at (L.set k xo) o (by omega)]
      have hc2' : (w5.setCell ⟨rb, k, none⟩ (.int .i64 xo)).cell? ⟨rb, o, none⟩ = some (.int .i64 (L.set k xo)[o]) := hc2
      have hf2 : (w5.setCell ⟨rb, k, none⟩ (.int .i64 xo)).drew.frozen? ⟨rb, o, none⟩ = false := own1.frozenAt o
      have hf2' : (w5.setCell ⟨rb, k, none⟩ (.int .i64 xo)).frozen? ⟨rb, o, none⟩ = false := own1.frozenAt o
      have HW2 := Lib.hid (And.intro own2 hl2)
      have b3 : (0 : Int) ≤ (o : Int) := by omega
      have b4 : (o : Int) < (n : Int) := by omega
      have b5 : (k : Int) < (n : Int) := by omega
      have hfk := hf k
      have hfo := hf o
      generalize (L.set k xo)[o] = xz at hc2 hc2'
      clear own1 own2 hl1 hl2 g5 h5 hg5 ho5 hf ho hon hkL hoL hxk hxo hko HB HI HKD hL hd2 e1
      go_upto_region 11 with fail
      go_region
      go_wp2_with fail
      go_roundw
      case rel =>
        refine ⟨k + 1, (L.set k xo).set o xk, by omega, by go_num, HW2.out.2, Lib.hid ⟨?_, HW2.out.1, ?_⟩⟩
        · have h6 : StrmAt ((w5.setCell ⟨rb, k, none⟩ (.int .i64 xo)).setCell ⟨rb, o, none⟩ (.int .i64 xk)) sb (S0.after (k + 1)) := by
            unfold StrmAt
            rw [heap_setCell_ne _ _ _ _ hsne.symm, heap_setCell_ne _ _ _ _ hsne.symm]
            exact H5.out
          exact h6
        · exact grownBy_drew (grownBy_setNew (grownBy_setNew HG5.out (by omega) _ _) (by omega) _ _)
      case measure => simp [intOf]; omega
    · have hkm : k = m := by omega
      have b2 : ¬ (k : Int) < (m : Int) := by omega
      have m3 : (m : Int) ≤ (n : Int) := by omega
      have m4 : (0 : Int) ≤ (m : Int) := by omega
      clear hkm
      go_wp2_with fail

      go_ret2
      exact ⟨⟨_, _, rfl⟩, HI.out.2.2⟩
end Go.Proofs.YtioahjdojgcfdaaDoor

namespace Go.Proofs.YtioahjdojgcfdaaDoor
open Go.RowKit
attribute [local irreducible] shaL

def seedW : ByteArray := ⟨#[115, 101, 101, 100]⟩
def seedWn : Nat := 12033843946575967135941396699708530349
def digWn : Nat := 100482517704124264886003335601893802821651124267171901866308491432730986375190
theorem seedW_is : tagF 17 [(1936024932, 4), (1, 1)] = seedWn := by kernel_rfl
theorem seedW_txt : [seedW, str [1]] = [(1936024932, 4), (1, 1)].map txt := by
  rw [show [seedW, str [1]] = [txt (1936024932, 4), txt (1, 1)] from by
    rw [show seedW = txt (1936024932, 4) from by decide, show str [1] = txt (1, 1) from by decide]]
  rfl
theorem seedW_tag : tagS 17 [seedW, str [1]] = txt (seedWn, 16) := by
  have h := tag_texts 17 [(1936024932, 4), (1, 1)]
  rw [← seedW_txt, seedW_is] at h
  exact h
theorem digW_is : digF (seedWn * 4294967296) 20 = digWn := by kernel_rfl
def strmW : StrmS := ⟨tagS 17 [seedW, str [1]], 0, []⟩
theorem digW_num : numB (shaL (strmW.seed.data.toList ++ be 0 4)) = digWn := by
  have hs : strmW.seed.data.toList = be seedWn 16 := by show (tagS 17 [seedW, str [1]]).data.toList = _; rw [seedW_tag]; rfl
  rw [hs, shaL_num, numB_append, be_length, List.length_append, be_length, be_length, numB_be, numB_be, ← digW_is]
  congr 1
theorem strmW_nums : ∀ k, k < 3 → (strmW.after k).num < 18446744073709551552 := by
  obtain ⟨D, hD⟩ : ∃ D, shaL (strmW.seed.data.toList ++ be 0 4) = D := ⟨_, rfl⟩
  have hl : D.length = 32 := by rw [← hD, shaL_length]
  have hn := digW_num
  rw [hD] at hn
  have f0 : strmW.fill = ⟨strmW.seed, 1, D⟩ := by
    unfold StrmS.fill
    rw [if_pos (show strmW.rest = [] from rfl)]
    show (⟨strmW.seed, 1, shaL (strmW.seed.data.toList ++ be 0 4)⟩ : StrmS) = _
    rw [hD]
  have a1 : strmW.after 1 = ⟨strmW.seed, 1, D.drop 8⟩ := by
    show StrmS.nxt strmW = _
    unfold StrmS.nxt
    rw [f0]
  have g1 : (⟨strmW.seed, 1, D.drop 8⟩ : StrmS).fill = ⟨strmW.seed, 1, D.drop 8⟩ := by
    unfold StrmS.fill
    rw [if_neg (show ¬ D.drop 8 = [] from fun e => by have := congrArg List.length e; rw [List.length_drop, hl] at this; exact absurd this (by decide))]
  have a2 : strmW.after 2 = ⟨strmW.seed, 1, D.drop 16⟩ := by
    show StrmS.nxt (strmW.after 1) = _
    rw [a1]
    unfold StrmS.nxt
    rw [g1]
    show (⟨strmW.seed, 1, (D.drop 8).drop 8⟩ : StrmS) = _
    rw [List.drop_drop]
  have g2 : (⟨strmW.seed, 1, D.drop 16⟩ : StrmS).fill = ⟨strmW.seed, 1, D.drop 16⟩ := by
    unfold StrmS.fill
    rw [if_neg (show ¬ D.drop 16 = [] from fun e => by have := congrArg List.length e; rw [List.length_drop, hl] at this; exact absurd this (by decide))]
  have n0 := numB_sub D 0 8 (by omega)
  have n1 := numB_sub D 8 8 (by omega)
  have n2 := numB_sub D 16 8 (by omega)
  rw [hl, hn] at n0 n1 n2
  intro k hk
  match k, hk with
  | 0, _ =>
    show strmW.num < _
    unfold StrmS.num
    rw [f0]
    show numB (D.take 8) < _
    rw [List.drop_zero] at n0
    rw [n0]
    decide +kernel
  | 1, _ =>
    rw [a1]
    unfold StrmS.num
    rw [g1]
    show numB ((D.drop 8).take 8) < _
    rw [n1]
    decide +kernel
  | 2, _ =>
    rw [a2]
    unfold StrmS.num
    rw [g2]
    show numB ((D.drop 16).take 8) < _
    rw [n2]
    decide +kernel
set_option maxRecDepth 100000 in
set_option maxHeartbeats 1600000 in
theorem win_speaks (w : World) (hr : ShaReady w) : Calls Tryd.prog 10 #[] w fun e w' => e = .returned (.bool true) ∧ w.grownBy w' none := by
  have HOF := Lib.hid (of_fine seedW (by decide) 5 3 (by decide) (by decide) (by decide) w hr strmW rfl strmW_nums)
  have HND := Lib.hid (fun w' => needed_any 4 1 (by decide) (by decide) w')
  clear hr
  go_enter Tryd.func10, Tryd.ntmps10
  go_wp2_with fail
  refine HOF.out.mono ?_
  rintro e w1 ⟨⟨g, c, rfl⟩, g1⟩
  have HG1 := Lib.hid g1
  have hb := heap_alloc_at w1 (.cells #[.int .i64 7, .int .i64 4] 3) _ rfl
  have HSL := Lib.hid (slot74 w1.heap.size (w1.alloc (.cells #[.int .i64 7, .int .i64 4] 3)) (by rw [cell_of hb]; rfl) (by rw [cell_of hb]; rfl))
  clear g1 hb
  go_wp2_with fail
  refine HSL.out.mono ?_
  rintro e w2 ⟨rfl, rfl⟩
  go_wp2_with fail
  refine (HND.out _).mono ?_
  rintro e w3 ⟨rfl, rfl⟩
  go_wp2_with fail
  go_ret
  exact ⟨rfl, grownBy_alloc' HG1.out _⟩
end Go.Proofs.YtioahjdojgcfdaaDoor

namespace Go.Proofs.YtioahjdojgcfdaaDoor
open Go.RowKit

theorem infoBoolW : (Tryd.prog.info? 4).map (fun i => (i.zero, i.size, i.bytes)) = some (some (.bool false), 1, 1) := by kernel_rfl
theorem bools_set (L : List Bool) (i : Nat) (b : Bool) : bools (L.set i b) = (bools L).set i (.bool b) := by simp [bools, List.map_set]
theorem bit_u64 (x i : Nat) (hx : x ≤ 18446744073709551615) : bits .and .u64 ((x : Int) / 2 ^ i) 1 = ((x / 2 ^ i % 2 : Nat) : Int) := by
  have e : (x : Int) / 2 ^ i = ((x / 2 ^ i : Nat) : Int) := by
    rw [Int.natCast_ediv]
    congr 1
  have h := bits_and_u64_nat (x / 2 ^ i) 1 (Nat.lt_of_le_of_lt (Nat.div_le_self _ _) (by omega)) (by decide)
  rw [Nat.and_one_is_mod] at h
  rw [e]
  exact h
theorem bools_of_own {w : World} {B n : Nat} {t : TypeId} {a : Option Addr} {cap : Nat} {L : List Bool} (h : w.ownsRow B t 1 (.slice a n cap) n (bools L)) (i : Nat) (hi : i < L.length) : ∃ g, a = some ⟨g, 0, none⟩ ∧ w.cell? ⟨g, i, none⟩ = some (.bool L[i]) := by
  have hl := h.1
  rw [bools_length] at hl
  rcases h.2 with ⟨hv, h0⟩ | ⟨g, cap', cur, he, _⟩
  · omega
  · cases he
    exact ⟨g, rfl, by rw [h.cellAt i (by omega), bools_at L i hi]⟩
set_option maxRecDepth 100000 in
set_option maxHeartbeats 1600000 in
theorem choose_any (m q x : Nat) (hm : m ≤ 12) (hq : q ≤ m) (hx : x ≤ 18446744073709551615) (w : World) :
    Calls Tryd.prog 15 #[.int .i64 m, .int .i64 q, .int .u64 x] w fun e w' => e = .returned (.slice (some ⟨w.heap.size, 0, none⟩) m m) ∧ (∃ L : List Bool, L.length = m ∧ yesL L = q ∧ w'.ownsRow w.heap.size 4 1 (.slice (some ⟨w.heap.size, 0, none⟩) m m) m (bools L)) ∧ w.grownBy w' none := by
  obtain ⟨i0, hi, hz0, hz1, hz2⟩ := info_parts infoBoolW
  go_enter Tryd.func15, Tryd.ntmps15
  go_wp2_with (at_make; refine wpList_make_full _ rfl _ _ 35 rfl w.heap.size 4 i0 (.bool false) 1 Tryd.underlying35 hi hz0 hz1 _ _ _ _ m rfl rfl rfl rfl ?c1 ?c2 ?c3 ?_)
  case c1 => rw [hz2]; omega
  case c2 => unfold maxLen; omega
  case c3 => omega
  intro w1 hown hg
  have hrow : (madeCells #[Value.bool false] m).toList = bools (List.replicate m false) := by
    apply List.ext_getElem?
    intro i
    simp [madeCells, bools, List.getElem?_replicate]
    by_cases h : i < m <;> simp [h, Nat.mod_one]
  rw [hrow] at hown
  have HO := Lib.hid hown
  have HG := Lib.hid hg
  clear hown hg hrow
  go_wp2_with fail
  go_loopw [8, 9] (fun nv iv wr => ∃ (k n : Nat) (L : List Bool), k ≤ m ∧ n ≤ q ∧ iv = .int .i64 k ∧ nv = .int .i64 n ∧ Hid (L.length = m ∧ yesL L = n ∧ ∀ j, k ≤ j → j < m → L[j]? = some false) ∧ Hid (wr.ownsRow w.heap.size 4 1 (.slice (some ⟨w.heap.size, 0, none⟩) m m) m (bools L)) ∧ Hid (w.grownBy wr none))
    (fun _ iv _ => m - (intOf iv).toNat)
  case atStart => exact ⟨0, 0, _, Nat.zero_le _, Nat.zero_le _, rfl, rfl, Lib.hid ⟨by simp, yesL_false m, fun j _ hj => by simp [hj]⟩, HO, HG⟩
  case round =>
    clear HO HG
    obtain ⟨k, n, L, hk, hn, rfl, rfl, HL, HO, HG⟩ := hrel
    by_cases hlt : k < m
    · by_cases hnq : n < q
      · have hkL : k < L.length := by have := HL.out.1; omega
        have hat : wr.cell? ⟨w.heap.size, k, none⟩ = some (.bool L[k]) := by rw [HO.out.cellAt k (by omega), bools_at L k hkL]
        have hf := HO.out.frozenAt k
        have b1 : (0 : Int) ≤ (k : Int) := by omega
        have b2 : (k : Int) < (m : Int) := by omega
        have b3 : (n : Int) < (q : Int) := by omega
        have hbit := bit_u64 x k hx
        rcases Nat.mod_two_eq_zero_or_one (x / 2 ^ k) with hb | hb
        · rw [hb] at hbit
          go_wp2_with (first | rw [hbit])
          go_roundw
          case rel => exact ⟨k + 1, n, L, by omega, hn, by go_num, rfl, Lib.hid ⟨HL.out.1, HL.out.2.1, fun j h1 h2 => HL.out.2.2 j (by omega) h2⟩, HO, HG⟩
          case measure => simp [intOf]; omega
        · rw [hb] at hbit
          go_wp2_with (first | rw [hbit])
          go_roundw
          case rel =>
            refine ⟨k + 1, n + 1, L.set k true, by omega, by omega, by go_num, by go_num, Lib.hid ⟨by rw [List.length_set]; exact HL.out.1, by rw [yesL_set L k (HL.out.2.2 k (Nat.le_refl _) hlt), HL.out.2.1], fun j h1 h2 => ?_⟩, ?_, Lib.hid (grownBy_setNew HG.out (Nat.le_refl _) _ _)⟩
            · rw [List.getElem?_set_ne (by omega)]
              exact HL.out.2.2 j (by omega) h2
            · show World.ownsRow _ _ _ _ _ _ _
              rw [bools_set]
              exact (HO.out.stored _ _).1
          case measure => simp [intOf]; omega
      · have b2 : (k : Int) < (m : Int) := by omega
        have b3 : ¬ (n : Int) < (q : Int) := by omega
        go_wp2_with fail
        go_loopw [8, 10] (fun nv iv wr => ∃ (k n : Nat) (L : List Bool), k ≤ m ∧ n ≤ q ∧ iv = .int .i64 k ∧ nv = .int .i64 n ∧ Hid (L.length = m ∧ yesL L = n ∧ (n = q ∨ ∀ j, j < k → L[j]? = some true)) ∧ Hid (wr.ownsRow w.heap.size 4 1 (.slice (some ⟨w.heap.size, 0, none⟩) m m) m (bools L)) ∧ Hid (w.grownBy wr none))
          (fun _ iv _ => m - (intOf iv).toNat)
        case atStart => exact ⟨0, n, L, Nat.zero_le _, hn, rfl, rfl, Lib.hid ⟨HL.out.1, HL.out.2.1, Or.inr fun j hj => absurd hj (Nat.not_lt_zero j)⟩, HO, HG⟩
        case round =>
          clear HO HG HL
          obtain ⟨k, n, L, hk, hn, rfl, rfl, HL, HO, HG⟩ := hrel
          by_cases hlt : k < m
          · have hkL : k < L.length := by have := HL.out.1; omega
            have b2 : (k : Int) < (m : Int) := by omega
            by_cases hnq : n < q
            · obtain ⟨z, hz⟩ : ∃ z, L[k]? = some z := ⟨_, List.getElem?_eq_getElem hkL⟩
              have hze : L[k] = z := (List.getElem?_eq_some_iff.1 hz).2
              have hat : wr.cell? ⟨w.heap.size, k, none⟩ = some (.bool z) := by rw [HO.out.cellAt k (by omega), bools_at L k hkL, hze]
              have hf := HO.out.frozenAt k
              have HZ := Lib.hid hz
              have b1 : (0 : Int) ≤ (k : Int) := by omega
              have b3 : (n : Int) < (q : Int) := by omega
              have hall : ∀ j, j < k → L[j]? = some true := by
                rcases HL.out.2.2 with h | h
                · omega
                · exact h
              have HA := Lib.hid hall
              clear hz hze hall
              cases z
              · go_wp2_with fail
                go_roundw
                case rel =>
                  refine ⟨k + 1, n + 1, L.set k true, by omega, by omega, by go_num, by go_num, Lib.hid ⟨by rw [List.length_set]; exact HL.out.1, by rw [yesL_set L k HZ.out, HL.out.2.1], Or.inr fun j hj => ?_⟩, ?_, Lib.hid (grownBy_setNew HG.out (Nat.le_refl _) _ _)⟩
                  · by_cases e : j = k
                    · subst e; rw [List.getElem?_set_self hkL]
                    · rw [List.getElem?_set_ne (by omega)]; exact HA.out j (by omega)
                  · show World.ownsRow _ _ _ _ _ _ _
                    rw [bools_set]
                    exact (HO.out.stored _ _).1
                case measure => simp [intOf]; omega
              · go_wp2_with fail
                go_roundw
                case rel =>
                  refine ⟨k + 1, n, L, by omega, hn, by go_num, rfl, Lib.hid ⟨HL.out.1, HL.out.2.1, Or.inr fun j hj => ?_⟩, HO, HG⟩
                  by_cases e : j = k
                  · subst e; exact HZ.out
                  · exact HA.out j (by omega)
                case measure => simp [intOf]; omega
            · have hnq2 : n = q := by omega
              have b3 : ¬ (n : Int) < (q : Int) := by omega
              have HN := Lib.hid (HL.out.2.1.trans hnq2)
              clear hnq2
              go_wp2_with fail
              go_ret
              exact ⟨rfl, ⟨L, HL.out.1, HN.out, HO.out⟩, HG.out⟩
          · have hkm : k = m := by omega
            have hnq : yesL L = q := by
              rcases HL.out.2.2 with h | h
              · rw [HL.out.2.1, h]
              · have := yesL_all L (fun i hi => h i (by have := HL.out.1; omega))
                have h2 := HL.out.1
                have h3 := HL.out.2.1
                omega
            have HN := Lib.hid hnq
            have b2 : ¬ (k : Int) < (m : Int) := by omega
            clear hnq hkm
            go_wp2_with fail
            go_ret
            exact ⟨rfl, ⟨L, HL.out.1, HN.out, HO.out⟩, HG.out⟩
    · have b3 : ¬ (k : Int) < (m : Int) := by omega
      go_wp2_with fail
      go_loopw [8, 10] (fun nv iv wr => ∃ (k n : Nat) (L : List Bool), k ≤ m ∧ n ≤ q ∧ iv = .int .i64 k ∧ nv = .int .i64 n ∧ Hid (L.length = m ∧ yesL L = n ∧ (n = q ∨ ∀ j, j < k → L[j]? = some true)) ∧ Hid (wr.ownsRow w.heap.size 4 1 (.slice (some ⟨w.heap.size, 0, none⟩) m m) m (bools L)) ∧ Hid (w.grownBy wr none))
        (fun _ iv _ => m - (intOf iv).toNat)
      case atStart => exact ⟨0, n, L, Nat.zero_le _, hn, rfl, rfl, Lib.hid ⟨HL.out.1, HL.out.2.1, Or.inr fun j hj => absurd hj (Nat.not_lt_zero j)⟩, HO, HG⟩
      case round =>
        clear HO HG HL
        obtain ⟨k, n, L, hk, hn, rfl, rfl, HL, HO, HG⟩ := hrel
        by_cases hlt : k < m
        · have hkL : k < L.length := by have := HL.out.1; omega
          have b2 : (k : Int) < (m : Int) := by omega
          by_cases hnq : n < q
          · obtain ⟨z, hz⟩ : ∃ z, L[k]? = some z := ⟨_, List.getElem?_eq_getElem hkL⟩
            have hze : L[k] = z := (List.getElem?_eq_some_iff.1 hz).2
            have hat : wr.cell? ⟨w.heap.size, k, none⟩ = some (.bool z) := by rw [HO.out.cellAt k (by omega), bools_at L k hkL, hze]
            have hf := HO.out.frozenAt k
            have HZ := Lib.hid hz
            have b1 : (0 : Int) ≤ (k : Int) := by omega
            have b3 : (n : Int) < (q : Int) := by omega
            have hall : ∀ j, j < k → L[j]? = some true := by
              rcases HL.out.2.2 with h | h
              · omega
              · exact h
            have HA := Lib.hid hall
            clear hz hze hall
            cases z
            · go_wp2_with fail
              go_roundw
              case rel =>
                refine ⟨k + 1, n + 1, L.set k true, by omega, by omega, by go_num, by go_num, Lib.hid ⟨by rw [List.length_set]; exact HL.out.1, by rw [yesL_set L k HZ.out, HL.out.2.1], Or.inr fun j hj => ?_⟩, ?_, Lib.hid (grownBy_setNew HG.out (Nat.le_refl _) _ _)⟩
                · by_cases e : j = k
                  · subst e; rw [List.getElem?_set_self hkL]
                  · rw [List.getElem?_set_ne (by omega)]; exact HA.out j (by omega)
                · show World.ownsRow _ _ _ _ _ _ _
                  rw [bools_set]
                  exact (HO.out.stored _ _).1
              case measure => simp [intOf]; omega
            · go_wp2_with fail
              go_roundw
              case rel =>
                refine ⟨k + 1, n, L, by omega, hn, by go_num, rfl, Lib.hid ⟨HL.out.1, HL.out.2.1, Or.inr fun j hj => ?_⟩, HO, HG⟩
                by_cases e : j = k
                · subst e; exact HZ.out
                · exact HA.out j (by omega)
              case measure => simp [intOf]; omega
          · have hnq2 : n = q := by omega
            have b3 : ¬ (n : Int) < (q : Int) := by omega
            have HN := Lib.hid (HL.out.2.1.trans hnq2)
            clear hnq2
            go_wp2_with fail
            go_ret
            exact ⟨rfl, ⟨L, HL.out.1, HN.out, HO.out⟩, HG.out⟩
        · have hkm : k = m := by omega
          have hnq : yesL L = q := by
            rcases HL.out.2.2 with h | h
            · rw [HL.out.2.1, h]
            · have := yesL_all L (fun i hi => h i (by have := HL.out.1; omega))
              have h2 := HL.out.1
              have h3 := HL.out.2.1
              omega
          have HN := Lib.hid hnq
          have b2 : ¬ (k : Int) < (m : Int) := by omega
          clear hnq hkm
          go_wp2_with fail
          go_ret
          exact ⟨rfl, ⟨L, HL.out.1, HN.out, HO.out⟩, HG.out⟩
end Go.Proofs.YtioahjdojgcfdaaDoor

namespace Go.Proofs.YtioahjdojgcfdaaDoor
open Go.RowKit Go.ChangeShapes Go.WideShapes

theorem cell_plain' {w : World} {a : Addr} {n : Nat} {v : Value} (h : w.cell? (a.add n) = some v) : w.cell? ⟨a.block, a.off + n, none⟩ = some v := by
  have hs := World.cell?_spot h
  obtain ⟨b, o, sp⟩ := a
  by_cases hn : n = 0
  · subst hn
    have : sp = none := by simpa [Addr.add] using hs
    subst this
    simpa [Addr.add] using h
  · simpa [Addr.add, hn] using h

section
variable {H : Type} {enc : TypeId × Value → H} {P : Program} {w : World} {base : Nat} {spare : Nat → Bool} {held : Bool}
def byteOf : Value → UInt8 | .int _ n => UInt8.ofNat n.toNat | _ => 0
/-- an array of bytes -/
theorem open_byte_array {r : Reach} {b0 : Nat} {t e : TypeId} {n : Nat} {v : Value} {d : DataW H} {p : List MemPlace} (hu : P.underlying t = some (.array n e)) (he : P.underlying e = some (.int .u8)) (hce : P.cellsOf e = 1) (hct : P.cellsOf t = n)
    (hval : Value.okWide P w r b0 t v) (h : DataW.Trod enc P w base spare held t v d p) : ∃ l : List UInt8, l.length = n ∧ v = .agg (bytesV l).toArray := by
  simp only [Value.okWide, hu] at hval
  obtain ⟨cs, rfl, hsz, -⟩ := hval
  obtain ⟨fuel, hf⟩ := h
  obtain ⟨xs, m, rfl, hx, hcl, hxl, hat⟩ := DataW.trod_array hu hf
  have hcs : cs.toList.length = n := by rw [← hct]; simpa using hsz
  refine ⟨cs.toList.map byteOf, by simpa using hcs, ?_⟩
  congr 1
  apply Array.toList_inj.1
  apply List.ext_getElem (by simp [bytesV])
  intro i h1 h2
  have hi : i < n := by omega
  have h3 := hat i hi
  have hxi : xs[i]? = some (xs[i]'(by omega)) := List.getElem?_eq_getElem (by omega)
  have h4 : ((Value.agg cs).cells.toList.drop (i * P.cellsOf e)).take (P.cellsOf e) = [cs.toList[i]] := by
    rw [hce, Nat.mul_one]
    show (cs.toList.drop i).take 1 = _
    rw [List.drop_eq_getElem_cons (by omega)]
    rfl
  rw [h4, hxi] at h3
  obtain ⟨a, ea, -, wa⟩ := DataW.trod_int he h3
  simp only [List.cons.injEq, and_true] at ea
  have hb : 0 ≤ a ∧ a ≤ 255 := by simpa [Lit.wf, IntKind.min, IntKind.max, IntKind.signed, IntKind.bits] using wa
  simp only [bytesV, List.getElem_map, List.getElem_toArray, ea, byteOf]
  congr 1
  simp
  omega
/-- a slice of integers: nil, or cells -/
theorem open_int_slice {t e : TypeId} {a0 : Option Addr} {len cap : Nat} {d : DataW H} {p : List MemPlace} (ht : P.underlying t = some (.slice e)) (he : P.underlying e = some (.int .i64)) (hc : P.cellsOf e = 1)
    (h : DataW.Trod enc P w base spare held t (.slice a0 len cap) d p) : ∃ L : List Int, L.length = len ∧ IntsAt w (.slice a0 len cap) L ∧ len ≤ cap ∧ cap ≤ maxLen ∧ ∀ x ∈ L, -9223372036854775808 ≤ x ∧ x ≤ 9223372036854775807 := by
  obtain ⟨fuel, hf⟩ := h
  rcases open_ints ht he hc hf with ⟨hcs, hx⟩ | ⟨a, len', cap', zs, hcs, _, hl, hm, hz, hx, hcell, hws⟩
  · have hv : Value.slice a0 len cap = .slice none 0 0 := by simpa [Value.cells] using hcs
    cases hv
    exact ⟨[], rfl, IntsAt.nil _ _ _, Nat.le_refl _, by unfold maxLen; omega, by simp⟩
  · have hv : Value.slice a0 len cap = .slice (some a) len' cap' := by simpa [Value.cells] using hcs
    cases hv
    have hls : len ≤ zs.length := by rw [hz]; split <;> omega
    have hlen : (zs.take len).length = len := by simp; omega
    refine ⟨zs.take len, hlen, ⟨some a, cap, by rw [hlen], fun i hi => ?_⟩, hl, hm, fun x hx => ?_⟩
    · have hc' := hcell i (by omega)
      have h00 := World.cell?_spot (hcell 0 (by omega))
      obtain ⟨g, o, sp⟩ := a
      obtain rfl : sp = none := by simpa [Addr.add] using h00
      refine ⟨g, o, rfl, ?_⟩
      rw [cell_plain' hc', List.getElem_take, List.getD_eq_getElem?_getD, List.getElem?_eq_getElem (by omega)]
      rfl
    · have := hws x (List.mem_of_mem_take hx)
      simpa [Lit.wf, IntKind.min, IntKind.max, IntKind.signed, IntKind.bits] using this
/-- an array of integers -/
theorem open_int_array {r : Reach} {b0 : Nat} {t e : TypeId} {n : Nat} {k : IntKind} {v : Value} {d : DataW H} {p : List MemPlace} (hu : P.underlying t = some (.array n e)) (he : P.underlying e = some (.int k)) (hce : P.cellsOf e = 1) (hct : P.cellsOf t = n)
    (hval : Value.okWide P w r b0 t v) (h : DataW.Trod enc P w base spare held t v d p) : ∃ l : List Int, l.length = n ∧ (∀ x ∈ l, (Lit.int k x).wf = true) ∧ v = .agg (l.map (Value.int k)).toArray := by
  simp only [Value.okWide, hu] at hval
  obtain ⟨cs, rfl, hsz, -⟩ := hval
  obtain ⟨fuel, hf⟩ := h
  obtain ⟨xs, m, rfl, hx, hcl, hxl, hat⟩ := DataW.trod_array hu hf
  have hcs : cs.toList.length = n := by rw [← hct]; simpa using hsz
  have each : ∀ i (hi : i < n), ∃ a, cs.toList[i]'(by omega) = .int k a ∧ (Lit.int k a).wf = true := by
    intro i hi
    have h3 := hat i hi
    have hxi : xs[i]? = some (xs[i]'(by omega)) := List.getElem?_eq_getElem (by omega)
    have h4 : ((Value.agg cs).cells.toList.drop (i * P.cellsOf e)).take (P.cellsOf e) = [cs.toList[i]'(by omega)] := by
      rw [hce, Nat.mul_one]
      show (cs.toList.drop i).take 1 = _
      rw [List.drop_eq_getElem_cons (by omega)]
      rfl
    rw [h4, hxi] at h3
    obtain ⟨a, ea, -, wa⟩ := DataW.trod_int he h3
    simp only [List.cons.injEq, and_true] at ea
    exact ⟨a, ea, wa⟩
  refine ⟨cs.toList.map intOf, by simpa using hcs, ?_, ?_⟩
  · intro x hx
    obtain ⟨v, hv, rfl⟩ := List.mem_map.1 hx
    obtain ⟨i, hi, rfl⟩ := List.getElem_of_mem hv
    obtain ⟨a, ea, wa⟩ := each i (by omega)
    rw [ea]
    exact wa
  · congr 1
    apply Array.toList_inj.1
    apply List.ext_getElem (by simp)
    intro i h1 h2
    obtain ⟨a, ea, wa⟩ := each i (by omega)
    simp only [List.getElem_map, ea, intOf]
end
end Go.Proofs.YtioahjdojgcfdaaDoor

namespace Go.Proofs.YtioahjdojgcfdaaDoor
open Go.ChangeShapes Go.WideShapes Go.ChangeAt Go.RowKit

variable {H : Type} {enc : TypeId × Value → H} {P : Program}

/-- The row's post where nothing that was there has turned ('again' is false: nothing is asked of what is frozen). -/
theorem post_of_below {f : Func} {s : ChangeSpec} {apart fresh handsOn : Bool} {W W' : World} {args : Array Value} {v : Value} {ds gs : List (DataW H)} {before pa pv : List MemPlace}
    (hW : DataW.Whole enc P f.params.toList s.vars apart W args.toList ds gs before)
    (hres : ∀ (b : Nat) (sp : Nat → Bool) (hd : Bool), DataW.TrodAll enc P W' b sp hd f.resultTypes.toList (v.resultList f.resultTypes.size) (s.fn H (ds ++ gs)).results [])
    (hargs : ∀ sp : Nat → Bool, (∀ p ∈ before, sp p.block = true) → DataW.TrodAll enc P W' 0 sp true f.params.toList args.toList (s.fn H (ds ++ gs)).args pa)
    (hvars : ∀ sp : Nat → Bool, (∀ p ∈ before, sp p.block = true) → DataW.TrodVars enc P W' sp s.vars (s.fn H (ds ++ gs)).vars pv)
    (hps : before = pa ++ pv) (hk : Below W.heap.size W W') :
    s.post enc P f apart fresh handsOn false W args v W' := by
  have hold : ∀ p ∈ before, (fun b => decide (b < W.heap.size)) p.block = true := fun p hp => by simpa using hW.lt p hp
  refine ⟨ds, gs, before, [], pa, pv, hW, hres _ _ _, hargs _ hold, hvars _ hold, World.keptBut_mono (fun p hp => ⟨hp, ?_⟩) (hk.frame (· ∈ before)), fun h => by cases h⟩
  rw [hps, List.mem_append] at hp
  exact Or.inr hp

/-- The same, what was handed in being read again by 'Below.trod'. -/
theorem post_of_below_at {f : Func} {s : ChangeSpec} {apart fresh handsOn : Bool} {W W' : World} {args : Array Value} {v : Value} {ds gs : List (DataW H)} {before pa pv : List MemPlace}
    (hW : DataW.Whole enc P f.params.toList s.vars apart W args.toList ds gs before)
    (hres : ∀ (b : Nat) (sp : Nat → Bool) (hd : Bool), DataW.TrodAll enc P W' b sp hd f.resultTypes.toList (v.resultList f.resultTypes.size) (s.fn H (ds ++ gs)).results [])
    (hargs : DataW.TrodAll enc P W' 0 (fun b => decide (b < W.heap.size)) true f.params.toList args.toList (s.fn H (ds ++ gs)).args pa)
    (hvars : DataW.TrodVars enc P W' (fun b => decide (b < W.heap.size)) s.vars (s.fn H (ds ++ gs)).vars pv)
    (hps : before = pa ++ pv) (hk : Below W.heap.size W W') :
    s.post enc P f apart fresh handsOn false W args v W' := by
  refine ⟨ds, gs, before, [], pa, pv, hW, hres _ _ _, hargs, hvars, World.keptBut_mono (fun p hp => ⟨hp, ?_⟩) (hk.frame (· ∈ before)), fun h => by cases h⟩
  rw [hps, List.mem_append] at hp
  exact Or.inr hp
end Go.Proofs.YtioahjdojgcfdaaDoor
