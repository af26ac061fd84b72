/- Walks: Place and Value of the roster and of the document. · Walks: slices.Clone of auditors; a roster's Copy. · The walk of a roster's Lay. · SHA-256 on great numbers, made for the kernel's own arithmetic; it is the digest on bytes. No walk of the program. · Digests of texts as great numbers. No walk of the program. · Plain facts for RosterLays: names, keys and places of fifteen auditors. No walk. -/
import Derived.Test.YtioahjdojgcfdaaDoorRosterLaysB7
import Derived.Test.YtioahjdojgcfdaaDoorRosterLaysB2
import Derived.Test.YtioahjdojgcfdaaDoorRefTag
import Derived.Deep.AppendLies
import Derived.Deep.RegionHeld3
import Derived.KernelRfl
namespace Go.Proofs.YtioahjdojgcfdaaDoor
open Go.RowKit
attribute [local irreducible] shaL

def place20 (n : Nat) : ByteArray := tagS 15 [str [0, UInt8.ofNat n]]
theorem shr8 (n : Nat) (h : n < 256) : ((n : Int) / 256) = 0 := by omega
theorem u8n (n : Nat) (h : n < 256) : ((UInt8.ofNat n).toNat : Int) = n := by rw [UInt8.toNat_ofNat_of_lt' (show n < 256 from h)]
set_option maxRecDepth 100000 in
set_option maxHeartbeats 800000 in
theorem rplace_any (n : Nat) (hn : n < 256) (w : World) (hr : ShaReady w) :
    Calls Tryd.prog 43 #[.int .i64 n] w fun e w' => e = .returned (.string (place20 n)) ∧ w.grownBy w' none := by
  have hcv : (convert 57 9 (.slice (some ⟨w.heap.size, 0, none⟩) 2 2)).run Tryd.prog (w.alloc (.cells #[.int .u8 0, .int .u8 n] 5)) = .ok (.string (str [0, UInt8.ofNat n])) (w.alloc (.cells #[.int .u8 0, .int .u8 n] 5)) :=
    row_string_w w [.int .u8 0, .int .u8 n] [0, UInt8.ofNat n] (by show _ = [Value.int .u8 ((0 : UInt8).toNat : Int), Value.int .u8 ((UInt8.ofNat n).toNat : Int)]; rw [u8n n hn]; rfl)
  have hg : w.grownBy (w.alloc (.cells #[.int .u8 0, .int .u8 n] 5)) none := World.grownBy_alloc _ _ _
  obtain ⟨W, hW⟩ : ∃ W, w.alloc (.cells #[.int .u8 0, .int .u8 n] 5) = W := ⟨_, rfl⟩
  rw [hW] at hcv hg
  unfold place20
  have hz : (str [0, UInt8.ofNat n]).size = 2 := rfl
  generalize str [0, UInt8.ofNat n] = z at hcv hz ⊢
  have HT := Lib.hid (tagged_new W 15 [z] [.string z] 1 15 rfl rfl rfl (hr.grown hg) (by simp) (by intro s hs; simp at hs; subst hs; omega))
  have HG := Lib.hid hg
  have HW := Lib.hid hW
  have hb : (n : Int) < 256 := by omega
  have h0 : (0 : Int) ≤ (n : Int) := by omega
  have h8 := shr8 n hn
  clear hg hW hr hz
  go_enter Tryd.func43, Tryd.ntmps43
  go_wp2_with (first | rw [HW.out])
  refine HT.out.mono ?_
  rintro e w2 ⟨rfl, g2⟩
  have HG2 := Lib.hid (grownBy_trans HG.out g2)
  clear g2
  go_wp2_with fail
  go_ret
  exact ⟨rfl, HG2.out⟩
set_option maxRecDepth 100000 in
set_option maxHeartbeats 800000 in
theorem refPlace_any (n : Nat) (hn : n < 256) (w : World) :
    Calls Tryd.prog 41 #[.int .i64 n] w fun e w' => e = .returned (.string (place20 n)) ∧ w.grownBy w' none := by
  have hcv : (convert 57 9 (.slice (some ⟨w.heap.size, 0, none⟩) 2 2)).run Tryd.prog (w.alloc (.cells #[.int .u8 0, .int .u8 n] 5)) = .ok (.string (str [0, UInt8.ofNat n])) (w.alloc (.cells #[.int .u8 0, .int .u8 n] 5)) :=
    row_string_w w [.int .u8 0, .int .u8 n] [0, UInt8.ofNat n] (by show _ = [Value.int .u8 ((0 : UInt8).toNat : Int), Value.int .u8 ((UInt8.ofNat n).toNat : Int)]; rw [u8n n hn]; rfl)
  have hg : w.grownBy (w.alloc (.cells #[.int .u8 0, .int .u8 n] 5)) none := World.grownBy_alloc _ _ _
  obtain ⟨W, hW⟩ : ∃ W, w.alloc (.cells #[.int .u8 0, .int .u8 n] 5) = W := ⟨_, rfl⟩
  rw [hW] at hcv hg
  unfold place20
  have hz : (str [0, UInt8.ofNat n]).size = 2 := rfl
  generalize str [0, UInt8.ofNat n] = z at hcv hz ⊢
  have HT := Lib.hid (refTagged_new W _ rfl 15 [z] [.string z] 1 15 rfl rfl rfl (by simp) (by intro s hs; simp at hs; subst hs; omega))
  have HG := Lib.hid hg
  have HW := Lib.hid hW
  have hb : (n : Int) < 256 := by omega
  have h0 : (0 : Int) ≤ (n : Int) := by omega
  have h8 := shr8 n hn
  have h9 : (n : Int).tdiv 256 = 0 := by rw [Int.tdiv_eq_ediv_of_nonneg h0]; exact h8
  have h10 : (n : Int).tmod 256 = n := by rw [Int.tmod_eq_emod_of_nonneg h0]; omega
  clear hg hW hz
  go_enter Tryd.func41, Tryd.ntmps41
  go_wp2_with (first | rw [HW.out])
  refine HT.out.mono ?_
  rintro e w2 ⟨rfl, g2⟩
  have HG2 := Lib.hid (grownBy_trans HG.out g2)
  clear g2
  go_wp2_with fail
  go_ret
  exact ⟨rfl, HG2.out⟩
set_option maxRecDepth 100000 in
set_option maxHeartbeats 800000 in
theorem refVal20_any (nm k : ByteArray) (h1 : nm.size ≤ 1000) (h2 : k.size ≤ 1000) (w : World) :
    Calls Tryd.prog 42 #[.string nm, .string k] w fun e w' => e = .returned (.string (tagS 16 [nm, k])) ∧ w.grownBy w' none := by
  have HT := Lib.hid (refTagged_new w _ rfl 16 [nm, k] [.string nm, .string k] 2 16 rfl rfl rfl (by simp) (by intro s hs; simp at hs; rcases hs with rfl | rfl <;> omega))
  clear h1 h2
  go_enter Tryd.func42, Tryd.ntmps42
  go_wp2_with fail
  refine HT.out.mono ?_
  rintro e w2 ⟨rfl, g2⟩
  have HG2 := Lib.hid g2
  clear g2
  go_wp2_with fail
  go_ret
  exact ⟨rfl, HG2.out⟩
theorem pubEnc_small (o r : ByteArray) (h : Int) : pubErr o r h = 0 → (pubEnc o r h).size ≤ 1000000 := by
  intro _
  unfold pubEnc
  split
  · rename_i q
    rw [str_size, pubB_len q]
    decide
  · decide
/-- an auditor's value in the tree -/
def val20 (x : AudS) : ByteArray := if pubErr x.o x.r x.h = 0 then tagS 16 [x.n, pubEnc x.o x.r x.h] else ⟨#[]⟩
set_option maxRecDepth 100000 in
set_option maxHeartbeats 1600000 in
theorem rvalue_gen (x : AudS) (hx1 : pubErr x.o x.r x.h = 0 → x.n.size ≤ 1000000) (hx2 : x.o.size ≤ 100000) (hx3 : x.r.size ≤ 100000) (w : World) (hr : ShaReady w) :
    Calls Tryd.prog 44 #[x.val] w fun e w' => e = .returned (.string (val20 x)) ∧ w.grownBy w' none := by
  obtain ⟨nm, o, r, h⟩ := x
  have h1 : pubErr o r h = 0 → nm.size ≤ 1000000 := hx1
  have h2 : o.size ≤ 100000 := hx2
  have h3 : r.size ≤ 100000 := hx3
  clear hx1 hx2 hx3
  have HP := Lib.hid (fun w' => pencode_any o r h h2 h3 w')
  have hV : val20 ⟨nm, o, r, h⟩ = if pubErr o r h = 0 then tagS 16 [nm, pubEnc o r h] else ⟨#[]⟩ := rfl
  rw [hV]
  have hps : pubErr o r h = 0 → (pubEnc o r h).size ≤ 1000000 := pubEnc_small o r h
  obtain ⟨PE, hPE⟩ : ∃ PE, pubErr o r h = PE := ⟨_, rfl⟩
  rw [hPE] at HP hps h1 ⊢
  generalize pubEnc o r h = PB at HP hps ⊢
  unfold pubZ at HP
  unfold AudS.val AudS.cells
  simp only
  have hb0 := heap_alloc_at w (.cells #[.string nm, .string o, .string r, .int .i64 h] 82) _ rfl
  have hg0 := World.grownBy_alloc w (.cells #[.string nm, .string o, .string r, .int .i64 h] 82) none
  obtain ⟨W0, hW0⟩ : ∃ W0, w.alloc (.cells #[.string nm, .string o, .string r, .int .i64 h] 82) = W0 := ⟨_, rfl⟩
  rw [hW0] at hb0 hg0
  obtain ⟨x0, x1, x2, x3⟩ := cells4 hb0
  have HB := Lib.hid (And.intro hb0 hg0)
  have HW := Lib.hid hW0
  have HR := Lib.hid hr
  clear hb0 hg0 hW0 hr hV h2 h3
  by_cases e0 : PE = 0
  · have q1 : (PE != 0) = false := by simp [e0]
    have hps := hps e0
    have h1 := h1 e0
    rw [if_pos e0]
    have HS := Lib.hid (And.intro h1 hps)
    clear h1 hps hPE
    go_enter Tryd.func44, Tryd.ntmps44
    go_wp2_with (rw [HW.out])
    refine (HP.out _).mono ?_
    rintro e w1 ⟨rfl, g1⟩
    have c0 := g1.cell x0 (by simp)
    have HG1 := Lib.hid (grownBy_trans HB.out.2 g1)
    have HT := Lib.hid (tagged_new w1 16 [nm, PB] [.string nm, .string PB] 2 16 rfl rfl rfl (HR.out.grown HG1.out) (by simp) (by intro s hs; have := HS.out; simp at hs; rcases hs with rfl | rfl <;> omega))
    clear g1 x0 x1 x2 x3
    go_wp2_with fail
    refine HT.out.mono ?_
    rintro e w2 ⟨rfl, g2⟩
    have HG2 := Lib.hid (grownBy_trans HG1.out g2)
    clear g2
    go_wp2_with fail
    go_ret
    exact ⟨rfl, HG2.out⟩
  · have q1 : (PE != 0) = true := by simp [e0]
    rw [if_neg e0]
    clear h1 hps hPE
    go_enter Tryd.func44, Tryd.ntmps44
    go_wp2_with (rw [HW.out])
    refine (HP.out _).mono ?_
    rintro e w1 ⟨rfl, g1⟩
    have HG1 := Lib.hid (grownBy_trans HB.out.2 g1)
    clear g1 x0 x1 x2 x3
    go_wp2_with fail
    go_ret
    exact ⟨rfl, HG1.out⟩
theorem rvalue_any (x : AudS) (hx : x.small) (w : World) (hr : ShaReady w) :
    Calls Tryd.prog 44 #[x.val] w fun e w' => e = .returned (.string (val20 x)) ∧ w.grownBy w' none := rvalue_gen x (fun _ => hx.n) hx.o hx.r w hr
/-! nil -/
set_option maxRecDepth 100000 in
theorem radd_nil (x : AudS) (w : World) :
    Calls Tryd.prog 30 #[.pointer none, x.val] w fun e w' => e = .returned (.tuple #[.int .i64 0, .int .i64 1]) ∧ w.grownBy w' none := by
  unfold AudS.val AudS.cells
  have HG := Lib.hid (World.grownBy_alloc w (.cells #[.string x.n, .string x.o, .string x.r, .int .i64 x.h] 82) none)
  obtain ⟨nm, o, r, h⟩ := x
  simp only at HG ⊢
  go_enter Tryd.func30, Tryd.ntmps30
  go_wp2_with fail
  go_returns
  exact ⟨rfl, HG.out⟩
set_option maxRecDepth 100000 in
theorem rlen_nil (w : World) :
    Calls Tryd.prog 33 #[.pointer none] w fun e w' => e = .returned (.int .i64 0) ∧ w = w' := by
  go_enter Tryd.func33, Tryd.ntmps33
  go_wp2_with fail
  go_ret
  exact ⟨rfl, rfl⟩
set_option maxRecDepth 100000 in
set_option maxHeartbeats 1600000 in
theorem rat_nil (w : World) :
    Calls Tryd.prog 34 #[.pointer none, .int .i64 0] w fun e w' => e = .returned (.tuple #[audZ, .int .i64 20]) ∧ w.grownBy w' none := by
  obtain ⟨m, hm⟩ : ∃ m, w.heap.size = m := ⟨_, rfl⟩
  have hb0 := heap_alloc_at w (.cells #[.string ⟨#[]⟩, .string ⟨#[]⟩, .string ⟨#[]⟩, .int .i64 0] 82) m hm
  have hg0 := World.grownBy_alloc w (.cells #[.string ⟨#[]⟩, .string ⟨#[]⟩, .string ⟨#[]⟩, .int .i64 0] 82) none
  obtain ⟨W0, hW0⟩ : ∃ W0, w.alloc (.cells #[.string ⟨#[]⟩, .string ⟨#[]⟩, .string ⟨#[]⟩, .int .i64 0] 82) = W0 := ⟨_, rfl⟩
  rw [hW0] at hb0 hg0
  have HLE := Lib.hid (rlen_nil W0)
  have HB := Lib.hid (And.intro hb0 hg0)
  have HW := Lib.hid (And.intro hW0 hm)
  obtain ⟨u0, u1, u2, u3⟩ := cells4 hb0
  have uf := fun j => free_of hb0 j
  have hfin : ∀ v0 v1 v2 v3, w.grownBy ((((W0.setCell ⟨m, 0, none⟩ v0).setCell ⟨m, 1, none⟩ v1).setCell ⟨m, 2, none⟩ v2).setCell ⟨m, 3, none⟩ v3) none := fun v0 v1 v2 v3 => grown_row hg0 (grown4 W0 m v0 v1 v2 v3) (fun y e => by cases e; omega)
  have HFIN := Lib.hid hfin
  clear hb0 hg0 hW0 hm hfin
  go_enter Tryd.func34, Tryd.ntmps34
  go_wp2_with (rw [HW.out.1, HW.out.2])
  refine HLE.out.mono ?_
  rintro e w1 ⟨rfl, rfl⟩
  go_wp2_with fail
  refine bodyPost_ret (results_rat (n := m) (v0 := .string ⟨#[]⟩) (v1 := .string ⟨#[]⟩) (v2 := .string ⟨#[]⟩) (v3 := .int .i64 0) rfl rfl (heap4 HB.out.1 _ _ _ _)) rfl ?_
  exact ⟨rfl, HFIN.out _ _ _ _⟩
set_option maxRecDepth 100000 in
theorem rcopy_nil (w : World) :
    Calls Tryd.prog 36 #[.pointer none] w fun e w' => e = .returned (.pointer none) ∧ w = w' := by
  go_enter Tryd.func36, Tryd.ntmps36
  go_wp2_with fail
  go_ret
  exact ⟨rfl, rfl⟩
set_option maxRecDepth 100000 in
theorem rlay_nil (v : Option Addr) (w : World) :
    Calls Tryd.prog 37 #[.pointer none, .pointer v] w fun e w' => e = .returned (.int .i64 1) ∧ w = w' := by
  go_enter Tryd.func37, Tryd.ntmps37
  go_wp2_with fail
  go_ret
  exact ⟨rfl, rfl⟩
set_option maxRecDepth 100000 in
theorem rlay_nil2 (rb : Nat) (w : World) :
    Calls Tryd.prog 37 #[.pointer (some ⟨rb, 0, none⟩), .pointer none] w fun e w' => e = .returned (.int .i64 1) ∧ w = w' := by
  go_enter Tryd.func37, Tryd.ntmps37
  go_wp2_with fail
  go_ret
  exact ⟨rfl, rfl⟩
end Go.Proofs.YtioahjdojgcfdaaDoor

namespace Go.Proofs.YtioahjdojgcfdaaDoor
open Go.RowKit
attribute [local irreducible] shaL

theorem own_formX {w : World} {B n s : Nat} {t : TypeId} {v : Value} {xs : List Value} (h : w.ownsRow B t s v n xs) : (v = .slice none 0 0 ∧ n = 0) ∨ ∃ g cap, v = .slice (some ⟨g, 0, none⟩) n cap := by
  rcases h.2 with h' | ⟨g, cap, cur, rfl, _⟩
  · exact .inl h'
  · exact .inr ⟨g, cap, rfl⟩
theorem own_lowH {w : World} {B n s : Nat} {t : TypeId} {v : Value} {xs : List Value} (h : w.ownsRow B t s v n xs) : w.ownsRow 0 t s v n xs := by
  refine ⟨h.1, ?_⟩
  rcases h.2 with h' | ⟨g, cap, cur, rfl, hB, r⟩
  · exact .inl h'
  · exact .inr ⟨g, cap, cur, rfl, Nat.zero_le _, r⟩
theorem own_ne {i k n c : Nat} (h : i < k) : some i ≠ (Value.slice (some ⟨k, 0, none⟩) n c).ownBlock := by
  simp [Value.ownBlock]
  omega
set_option maxRecDepth 100000 in
set_option maxHeartbeats 1000000 in
theorem clone_aud (v : Value) (n : Nat) (xs : List Value) (w : World) (hv : w.ownsRow 0 82 4 v n xs) (h1 : ∀ u ∈ xs, u.oneCell' = true) (hn : n ≤ 1000000000) :
    Calls Tryd.prog 80 #[v] w fun e w' => ∃ v', e = .returned v' ∧ w'.ownsRow w.heap.size 82 4 v' n xs ∧ w.grownBy w' none := by
  obtain ⟨i0, hti, hz0, hz1, hz2⟩ := info_parts infoAud
  rcases own_formX hv with ⟨rfl, h0⟩ | ⟨g, cap, rfl⟩
  · subst h0
    have hx : xs = [] := List.eq_nil_of_length_eq_zero (by simpa using hv.1)
    subst hx
    have he : ∀ w : World, (binOp .eql 123 (.slice none 0 0) (.slice none 0 0)).run Tryd.prog w = .ok (.bool true) w := fun _ => rfl
    clear hv h1
    go_enter Tryd.func80, Tryd.ntmps80
    go_wp2_with fail
    go_ret
    exact ⟨_, rfl, World.ownsRow_nil _ _ _ _, World.grownBy.refl _ _⟩
  · have HV := Lib.hid hv
    have H1 := Lib.hid h1
    have hn2 : 0 + n ≤ maxLen := by unfold maxLen; omega
    have hn3 : (0 + n) * 56 ≤ 140737488355328 := by omega
    have HN := Lib.hid (And.intro hn2 hn3)
    have he : ∀ w : World, (binOp .eql 123 (.slice (some ⟨g, 0, none⟩) n cap) (.slice none 0 0)).run Tryd.prog w = .ok (.bool false) w := fun _ => rfl
    have HO : Hid ((w.alloc (.cells #[] 82)).ownsRow w.heap.size 82 4 (.slice (some ⟨w.heap.size, 0, none⟩) 0 0) 0 []) := World.ownsRow_lit w #[] 0 (Nat.le_refl _) (Nat.zero_le _) rfl
    have HC : Hid (∀ j u, xs[j]? = some u → (w.alloc (.cells #[] 82)).cell? ((⟨g, 0, none⟩ : Addr).add j) = some u) := fun j u hu => World.ownsRow.cells (hv.alloc _) rfl j u hu
    have HL : Hid (xs.length = n * 4) := hv.1
    clear hv h1 hn2 hn3
    go_enter Tryd.func80, Tryd.ntmps80
    go_wp2_with (at_builtin; refine wpList_append_own _ rfl (.tmp 5) (.tmp 6) 123 rfl w.heap.size 82 i0 _ 4 56 Tryd.underlying123 hti hz0 hz1 hz2 rfl (by decide) _ 0 [] rfl HO.out ⟨g, 0, none⟩ n cap xs rfl HL.out HC.out H1.out HN.out.1 HN.out.2 (by simp) ?_; intro v' w' ho hg _)
    rw [Nat.zero_add, List.nil_append] at ho
    have HO2 := Lib.hid ho
    have HG2 : Hid (w.grownBy w' none) := ⟨hg.os, hg.tape, hg.output, by have := hg.size; simp at this; omega, fun i hi _ => (hg.block i (by simp; omega) (own_ne hi)).trans (Below.heap_alloc _ _ _ hi)⟩
    clear ho hg
    go_wp2_with fail
    go_ret
    exact ⟨_, rfl, HO2.out, HG2.out⟩
theorem audsV_cell (L : List AudS) : ∀ u ∈ audsV L, u.oneCell' = true := by
  intro u hu
  obtain ⟨x, _, h⟩ := List.mem_flatMap.1 hu
  simp [AudS.cells] at h
  rcases h with rfl | rfl | rfl | rfl <;> rfl
set_option maxRecDepth 100000 in
set_option maxHeartbeats 1600000 in
theorem rcopy_any (n0 rb : Nat) (L : List AudS) (v : Value) (hl : L.length ≤ 100) (w : World) (hR : RosAt n0 rb L v w) :
    Calls Tryd.prog 36 #[.pointer (some ⟨rb, 0, none⟩)] w fun e w' => ∃ cb v', e = .returned (.pointer (some ⟨cb, 0, none⟩)) ∧ RosAt w.heap.size cb L v' w' ∧ w.grownBy w' none := by
  have c0 : w.cell? ⟨rb, 0, none⟩ = some v := by rw [cell_of hR.h]; rfl
  have hc := clone_aud v L.length (audsV L) w (own_lowH hR.o) (audsV_cell L) (by omega)
  have HC := Lib.hid hc
  obtain ⟨a, c, rfl⟩ := hR.form
  clear hR hc
  go_enter Tryd.func36, Tryd.ntmps36
  go_wp2_with fail
  refine HC.out.mono ?_
  rintro e w1 ⟨v1, rfl, ho, g1⟩
  obtain ⟨a1, k1, rfl⟩ : ∃ a1 k1, v1 = .slice a1 L.length k1 := by
    rcases own_formX ho with ⟨rfl, h0⟩ | ⟨g, cap, rfl⟩
    · exact ⟨none, 0, by rw [h0]⟩
    · exact ⟨_, cap, rfl⟩
  have HO := Lib.hid ho
  have HG := Lib.hid g1
  have HB := Lib.hid (heap_alloc_at w1 (.cells #[.slice a1 L.length k1] 125) _ rfl)
  have hgA := World.grownBy_alloc w1 (.cells #[.slice a1 L.length k1] 125) none
  have HGA := Lib.hid hgA
  clear ho g1 c0 hgA
  go_wp2_with fail
  go_ret
  refine ⟨_, _, rfl, ⟨HB.out, own_keepR HO.out HGA.out (fun _ _ e => by cases e), fun k => ?_, HG.out.size⟩, grownBy_trans HG.out HGA.out⟩
  have := (HO.out.lt _ k).1
  have := (HO.out.lt _ k).2
  omega
end Go.Proofs.YtioahjdojgcfdaaDoor

namespace Go.Proofs.YtioahjdojgcfdaaDoor
open Go.RowKit
attribute [local irreducible] shaL

def audAt (L : List AudS) (i : Nat) : AudS := (L[i]?).getD ⟨⟨#[]⟩, ⟨#[]⟩, ⟨#[]⟩, 0⟩
/-- the tree behind i auditors -/
def layM (L : List AudS) : Nat → List PairS
  | 0 => []
  | i + 1 => setM (layM L i) (place20 i, val20 (audAt L i))
theorem setM_le (M : List PairS) (x : PairS) : (setM M x).length ≤ M.length + 1 := by
  unfold setM
  rw [List.length_append]
  have := List.length_filter_le (fun p : PairS => !(decide (p.1 = x.1))) M
  simpa using this
theorem layM_le (L : List AudS) : ∀ i, (layM L i).length ≤ i
  | 0 => Nat.le_refl _
  | i + 1 => Nat.le_trans (setM_le _ _) (Nat.succ_le_succ (layM_le L i))
theorem place20_size (n : Nat) : (place20 n).size = 16 := tagS_size _ _
theorem val20_size (x : AudS) : (val20 x).size ≤ 1000000 := by
  unfold val20
  split
  · rw [tagS_size]; decide
  · decide
theorem RosAt.turn {n0 m0 rb : Nat} {X : List Nat} {L : List AudS} {v : Value} {w w' : World} (h : RosAt n0 rb L v w) (k : Turn (rest m0 X) w w') (h1 : rb ∈ X) (h2 : ∀ g, v.ownBlock = some g → g ∈ X) : RosAt n0 rb L v w' :=
  ⟨k.inX h1 h.h, own_turn h.o k (fun g e q => q.2 (h2 g e)), h.ne, h.l⟩
/-- in Lay's loop -/
structure LayIn (n0 tb : Nat) (X : List Nat) (w : World) (M : List PairS) (wr : World) : Prop where
  t : TreeK n0 X wr tb M
  k : Turn (rest n0 X) w wr
set_option maxRecDepth 100000 in
set_option maxHeartbeats 3200000 in
theorem rlay_any (w0 : World) (hr : ShaReady w0) (rb tb : Nat) (X : List Nat) (L : List AudS) (v : Value) (w : World) (hb0 : w0.grownBy w none) (hL : L.length ≤ 100) (hs : ∀ x ∈ L, x.small) (hR : RosAt w0.heap.size rb L v w)
    (hT : TreeK w0.heap.size X w tb []) (hrb : rb ∈ X) (hv : ∀ g, v.ownBlock = some g → g ∈ X) (hX : ∀ x ∈ X, x < w.heap.size) :
    Calls Tryd.prog 37 #[.pointer (some ⟨rb, 0, none⟩), .pointer (some ⟨tb, 0, none⟩)] w fun e w' => e = .returned (.int .i64 0) ∧ TreeK w0.heap.size X w' tb (layM L L.length) ∧ Turn (rest w0.heap.size X) w w' := by
  obtain ⟨a, c, rfl⟩ := hR.form
  have HR := Lib.hid hR
  have HSR := Lib.hid hr
  have HS := Lib.hid hs
  have HX := Lib.hid hX
  have HGB : Hid (∀ wr, Turn (rest w0.heap.size X) w wr → w0.grownBy wr none) := Lib.hid (fun wr k => grownBy_below (k.bel (below_grownBy hb0) hb0.size))
  have HRT : Hid (∀ wr, Turn (rest w0.heap.size X) w wr → RosAt w0.heap.size rb L (.slice a L.length c) wr) := Lib.hid (fun wr k => hR.turn k hrb hv)
  have HT := Lib.hid hT
  have r0 : w.cell? ⟨rb, 0, none⟩ = some (.slice a L.length c) := by rw [cell_of hR.h]; rfl
  obtain ⟨n0, hn0⟩ : ∃ n0, w0.heap.size = n0 := ⟨_, rfl⟩
  have HN0 := Lib.hid hn0
  rw [hn0] at HR HT HGB HRT ⊢
  obtain ⟨n, hn⟩ : ∃ n, L.length = n := ⟨_, rfl⟩
  rw [hn] at HR HRT hL r0 ⊢
  have HN := Lib.hid hn
  clear hR hT hrb hv hX hr hs hb0 hn hn0
  go_enter Tryd.func37, Tryd.ntmps37
  go_wp2_with fail
  clear r0
  go_loopw [5, 6, 18] (fun _ _ iv wr => ∃ i : Nat, i ≤ n ∧ iv = .int .i64 i ∧ Hid (LayIn n0 tb X w (layM L i) wr)) (fun _ _ iv _ => n - (intOf iv).toNat)
  case atStart => exact ⟨0, Nat.zero_le _, rfl, Lib.hid ⟨HT.out, Turn.refl _ _⟩⟩
  case round =>
    obtain ⟨i, hi, rfl, HI⟩ := hrel
    by_cases hlt : i < n
    · have d1 : (i : Int) < (n : Int) := by omega
      have d0 : (0 : Int) ≤ (i : Int) := by omega
      have hil : i < L.length := by have := HN.out; omega
      obtain ⟨x, hx⟩ : ∃ x, L[i]? = some x := ⟨_, List.getElem?_eq_getElem hil⟩
      have hxa : audAt L i = x := by unfold audAt; rw [hx]; rfl
      have hxs := HS.out x (List.mem_of_getElem? hx)
      have HRr := Lib.hid (HRT.out wr HI.out.k)
      have HGr := Lib.hid (HGB.out wr HI.out.k)
      obtain ⟨g, o, rfl, c0, c1, c2, c3⟩ := (auds_own HRr.out.o).at_ i x hx
      have hvl := val20_size x
      have hvx : val20 x = val20 x := rfl
      have HSN : Hid (setM (layM L i) (place20 i, val20 x) = layM L (i + 1)) := by show _ = setM _ _; rw [hxa]
      have hgA := World.grownBy_alloc wr (.cells #[.string x.n, .string x.o, .string x.r, .int .i64 x.h] 82) none
      have hbA := heap_alloc_at wr (.cells #[.string x.n, .string x.o, .string x.r, .int .i64 x.h] 82) _ rfl
      obtain ⟨AB, hAB⟩ : ∃ AB, wr.heap.size = AB := ⟨_, rfl⟩
      obtain ⟨W, hW⟩ : ∃ W, wr.alloc (.cells #[.string x.n, .string x.o, .string x.r, .int .i64 x.h] 82) = W := ⟨_, rfl⟩
      rw [hW] at hgA hbA
      rw [hAB] at hbA
      have hgW := grownBy_drew hgA
      obtain ⟨y0, y1, y2, y3⟩ := cells4 (show W.drew.heap[AB]? = _ from hbA)
      have HKW := Lib.hid (show LayIn n0 tb X w (layM L i) W.drew from ⟨HI.out.t.grown hgW, HI.out.k.grown hgW⟩)
      have HPL := Lib.hid (fun (w' : World) (q : W.drew.grownBy w' none) => rplace_any i (by omega) w' (HSR.out.grown (grownBy_trans (HGB.out _ HKW.out.k) q)))
      have HVA := Lib.hid (fun (w' : World) (q : W.drew.grownBy w' none) => rvalue_any x hxs w' (HSR.out.grown (grownBy_trans (HGB.out _ HKW.out.k) q)))
      have hTX : TreeK n0 (AB :: X) W.drew tb (layM L i) := HI.out.t.more hgW (fun y hy => by
        rcases List.mem_cons.1 hy with rfl | hy
        · exact .inr (by omega)
        · exact .inl hy)
      have hABl : AB < W.drew.heap.size := (Array.getElem?_eq_some_iff.1 hbA).1
      have HPUT : Hid (∀ w', W.drew.grownBy w' none → Calls Tryd.prog 81 #[.pointer (some ⟨tb, 0, none⟩), .string (place20 i), .string (val20 x)] w' fun e w'' => e = .returned (.int .i64 0) ∧ TreeK n0 (AB :: X) w'' tb (setM (layM L i) (place20 i, val20 x)) ∧ Turn (rest n0 (AB :: X)) w' w'') := Lib.hid (fun w' q =>
        tput_any n0 (AB :: X) w' tb (layM L i) (place20 i) (val20 x) (hTX.grown q) (fun y hy => by
          have h1 := HKW.out.k.size
          have h2 := q.size
          rcases List.mem_cons.1 hy with rfl | hy
          · omega
          · have := HX.out y hy; omega) (by have := HN0.out; have := (grownBy_trans (HGB.out _ HKW.out.k) q).size; omega) (place20_size i) hvl (by have := layM_le L i; omega))
      unfold AudS.val AudS.cells at HVA
      have HCK : Hid (∀ w', W.drew.grownBy w' none → w'.cell? ⟨AB, 0, none⟩ = some (.string x.n) ∧ w'.cell? ⟨AB, 1, none⟩ = some (.string x.o) ∧ w'.cell? ⟨AB, 2, none⟩ = some (.string x.r) ∧ w'.cell? ⟨AB, 3, none⟩ = some (.int .i64 x.h)) := Lib.hid (fun w' g => ⟨g.cell y0 (by simp), g.cell y1 (by simp), g.cell y2 (by simp), g.cell y3 (by simp)⟩)
      have HPC : Hid (∀ w4 w5 : World, W.drew.grownBy w4 none → Turn (rest n0 (AB :: X)) w4 w5 → w5.cell? ⟨AB, 0, none⟩ = some (.string x.n) ∧ w5.cell? ⟨AB, 1, none⟩ = some (.string x.o) ∧ w5.cell? ⟨AB, 2, none⟩ = some (.string x.r) ∧ w5.cell? ⟨AB, 3, none⟩ = some (.int .i64 x.h)) := Lib.hid (fun w4 w5 q t => by
        obtain ⟨h0, h1, h2, h3⟩ := HCK.out w4 q
        have hg4 : AB < w4.heap.size := Nat.lt_of_lt_of_le hABl q.size
        have hn : ¬ rest n0 (AB :: X) AB := fun r => r.2 (List.mem_cons_self ..)
        exact ⟨(t.cell hg4 hn _).trans h0, (t.cell hg4 hn _).trans h1, (t.cell hg4 hn _).trans h2, (t.cell hg4 hn _).trans h3⟩)
      have HABN : Hid (AB ∉ X ∧ n0 ≤ AB) := Lib.hid ⟨fun q => by have := HX.out _ q; have := HI.out.k.size; omega, by have := HGr.out.size; have := HN0.out; omega⟩
      have HW := Lib.hid (And.intro hW hAB)
      generalize place20 i = PL at HPL HPUT HSN
      generalize val20 x = VA at HVA HPUT HSN
      clear hx hxa hxs hvl hvx hgA hbA hgW hTX hABl y0 y1 y2 y3 hil HRr HGr hW hAB
      go_upto_region 6 with fail
      rw [HW.out.1, HW.out.2]
      have gk : W.drew.grownBy W.drew none := World.grownBy.refl _ _
      have ck := HCK.out _ gk
      go_region_held3 (fun w' => w'.cell? ⟨AB, 0, none⟩ = some (.string x.n) ∧ w'.cell? ⟨AB, 1, none⟩ = some (.string x.o) ∧ w'.cell? ⟨AB, 2, none⟩ = some (.string x.r) ∧ w'.cell? ⟨AB, 3, none⟩ = some (.int .i64 x.h)) (first | exact ck | exact HCK.out _ gk)
        (first
        | (go_at_call 43; (with_reducible refine (HPL.out _ gk).mono ?_); rintro e w4 ⟨rfl, g4⟩; have gk := grownBy_trans gk g4; have ck := HCK.out _ gk)
        | (go_at_call 44; (with_reducible refine (HVA.out _ gk).mono ?_); rintro e w5 ⟨rfl, g5⟩; have gk := grownBy_trans gk g5; have ck := HCK.out _ gk)
        | (go_at_call 81; (with_reducible refine (HPUT.out _ gk).mono ?_); rintro e w6 ⟨rfl, hT6, t6⟩; have ck := HPC.out _ _ gk t6))
      all_goals
        have HK6 : Hid (LayIn n0 tb X w (layM L (i + 1)) w6) := Lib.hid ⟨by rw [← HSN.out]; exact hT6.more (World.grownBy.refl _ _) (fun y hy => .inl (List.mem_cons_of_mem _ hy)), (HKW.out.k.grown gk).then (rest_mono (fun y hy => List.mem_cons_of_mem _ hy) t6)⟩
        clear ck gk hT6 t6
        go_wp2_with fail
        go_roundw
        case rel => exact ⟨i + 1, by omega, by go_num, HK6⟩
        case measure => simp [intOf]; omega
    · have hin : i = n := by omega
      have d1 : ¬ (i : Int) < (n : Int) := by omega
      subst hin
      go_wp2_with fail
      go_ret
      exact ⟨rfl, HI.out.t, HI.out.k⟩
end Go.Proofs.YtioahjdojgcfdaaDoor

namespace Go.Proofs.YtioahjdojgcfdaaDoor

/-! digits -/
/-- digits to a base, the highest first -/
def num (B : Nat) (l : List Nat) : Nat := l.foldl (fun a x => a * B + x) 0
theorem num_foldl (B : Nat) (l : List Nat) (a : Nat) : l.foldl (fun a x => a * B + x) a = a * B ^ l.length + num B l := by
  induction l generalizing a with
  | nil => simp [num]
  | cons x l ih =>
    rw [num, List.foldl_cons, List.foldl_cons, ih, ih, List.length_cons, Nat.pow_succ, Nat.add_mul, Nat.zero_mul, Nat.zero_add, Nat.mul_assoc, Nat.mul_comm B, Nat.add_assoc]
theorem num_append (B : Nat) (l m : List Nat) : num B (l ++ m) = num B l * B ^ m.length + num B m := by
  rw [num, List.foldl_append, num_foldl]
  rfl
theorem num_one (B x : Nat) : num B [x] = x := by simp [num]
theorem num_cons (B x : Nat) (l : List Nat) : num B (x :: l) = x * B ^ l.length + num B l := by
  rw [← List.singleton_append, num_append, num_one]
theorem num_lt (B : Nat) (hB : 0 < B) (l : List Nat) (h : ∀ x ∈ l, x < B) : num B l < B ^ l.length := by
  induction l with
  | nil => simp [num]
  | cons x l ih =>
    have h1 := ih fun y hy => h y (List.mem_cons_of_mem _ hy)
    have h2 := h x List.mem_cons_self
    rw [num_cons, List.length_cons, Nat.pow_succ]
    have : (x + 1) * B ^ l.length ≤ B * B ^ l.length := Nat.mul_le_mul_right _ h2
    rw [Nat.add_mul, Nat.one_mul, Nat.mul_comm B] at this
    omega
theorem num_split (B : Nat) (hB : 0 < B) (a b c : List Nat) (ha : ∀ x ∈ b, x < B) (hc : ∀ x ∈ c, x < B) : num B (a ++ b ++ c) / B ^ c.length % B ^ b.length = num B b := by
  have h1 := num_lt B hB c hc
  have h2 := num_lt B hB b ha
  have hp : 0 < B ^ c.length := Nat.pow_pos hB
  rw [num_append, Nat.mul_comm _ (B ^ c.length), Nat.mul_add_div hp, Nat.div_eq_of_lt h1, Nat.add_zero, num_append, Nat.mul_comm _ (B ^ b.length), Nat.mul_add_mod, Nat.mod_eq_of_lt h2]
theorem num_sub (B : Nat) (hB : 0 < B) (l : List Nat) (h : ∀ x ∈ l, x < B) (i k : Nat) (hi : i + k ≤ l.length) : num B ((l.drop i).take k) = num B l / B ^ (l.length - i - k) % B ^ k := by
  have e : l = l.take i ++ (l.drop i).take k ++ (l.drop i).drop k := by rw [List.append_assoc, List.take_append_drop, List.take_append_drop]
  have hs := num_split B hB (l.take i) ((l.drop i).take k) ((l.drop i).drop k) (fun x hx => h x (List.mem_of_mem_drop (List.mem_of_mem_take hx))) (fun x hx => h x (List.mem_of_mem_drop (List.mem_of_mem_drop hx)))
  rw [← e] at hs
  rw [← hs]
  have l1 : ((l.drop i).drop k).length = l.length - i - k := by simp; omega
  have l2 : ((l.drop i).take k).length = k := by simp; omega
  rw [l1, l2]
theorem num_at (B : Nat) (hB : 0 < B) (l : List Nat) (h : ∀ x ∈ l, x < B) (i : Nat) (hi : i < l.length) : num B l / B ^ (l.length - 1 - i) % B = l[i] := by
  have := num_sub B hB l h i 1 (by omega)
  rw [Nat.pow_one, show l.length - i - 1 = l.length - 1 - i from by omega] at this
  rw [← this, List.drop_eq_getElem_cons hi, List.take_succ_cons, List.take_zero, num_one]

/-! bytes -/
def numB (l : List UInt8) : Nat := num 256 (l.map UInt8.toNat)
theorem bytes_lt (l : List UInt8) : ∀ x ∈ l.map UInt8.toNat, x < 256 := by
  intro x hx
  obtain ⟨b, _, rfl⟩ := List.mem_map.1 hx
  exact b.toNat_lt
theorem numB_append (l m : List UInt8) : numB (l ++ m) = numB l * 256 ^ m.length + numB m := by
  unfold numB
  rw [List.map_append, num_append, List.length_map]
theorem numB_lt (l : List UInt8) : numB l < 256 ^ l.length := by
  have := num_lt 256 (by decide) _ (bytes_lt l)
  rwa [List.length_map] at this
theorem numB_sub (l : List UInt8) (i k : Nat) (h : i + k ≤ l.length) : numB ((l.drop i).take k) = numB l / 256 ^ (l.length - i - k) % 256 ^ k := by
  have := num_sub 256 (by decide) (l.map UInt8.toNat) (bytes_lt l) i k (by rw [List.length_map]; exact h)
  rw [List.length_map] at this
  rw [numB, numB, ← this, List.map_take, List.map_drop]
theorem numB_be (n k : Nat) : numB (be n k) = n % 256 ^ k := by
  induction k generalizing n with
  | zero => simp [be, numB, num, Nat.mod_one]
  | succ k ih =>
    rw [be, numB_append, ih, Nat.pow_succ]
    have e : numB [UInt8.ofNat (n % 256)] = n % 256 := by simp [numB, num]
    rw [e, List.length_singleton, Nat.pow_one, Nat.mul_comm (256 ^ k), Nat.mod_mul]
    omega
theorem numB_zeros (k : Nat) : numB (List.replicate k 0) = 0 := by
  induction k with
  | zero => rfl
  | succ k ih =>
    rw [List.replicate_succ', numB_append, ih]
    rfl
theorem be_numB (l : List UInt8) : be (numB l) l.length = l := by
  have h : ∀ (k : Nat) (l : List UInt8), l.length = k → be (numB l) k = l := by
    intro k
    induction k with
    | zero => intro l hl; rw [List.length_eq_zero_iff.1 hl]; rfl
    | succ k ih =>
      intro l hl
      obtain ⟨m, x, rfl⟩ : ∃ m x, l = m ++ [x] := by
        rcases List.eq_nil_or_concat l with h | ⟨m, x, h⟩
        · rw [h] at hl; simp at hl
        · exact ⟨m, x, by rw [h, List.concat_eq_append]⟩
      have hm : m.length = k := by simp at hl; exact hl
      have e : numB [x] = x.toNat := by simp [numB, num]
      have hx := x.toNat_lt
      rw [be, numB_append, e, List.length_singleton, Nat.pow_one]
      rw [show (numB m * 256 + x.toNat) / 256 = numB m from by omega, show (numB m * 256 + x.toNat) % 256 = x.toNat from by omega, ih m hm]
      simp
  exact h _ l rfl

/-! the compression -/
def w32 : Nat := 4294967296
/-- rounds: the words ahead as one number -/
noncomputable def goF (ks : List Nat) : Nat → Nat → Nat → Nat → Nat → Nat → Nat → Nat → Nat → Nat :=
  List.rec (motive := fun _ => Nat → Nat → Nat → Nat → Nat → Nat → Nat → Nat → Nat → Nat)
    (fun a b c d e f g h _ => ((((((a * 4294967296 + b) * 4294967296 + c) * 4294967296 + d) * 4294967296 + e) * 4294967296 + f) * 4294967296 + g) * 4294967296 + h)
    (fun k _ ih a b c d e f g h W =>
      (fun t u => ih ((t + (Nat.xor (Nat.xor (Nat.shiftRight (a * 4294967297) 2) (Nat.shiftRight (a * 4294967297) 13)) (Nat.shiftRight (a * 4294967297) 22) + Nat.xor (Nat.land a b) (Nat.land c (Nat.xor a b)))) % 4294967296) a b c ((d + t) % 4294967296) e f g
         (W * 4294967296 % 13407807929942597099574024998205846127479365820592393377723561443721764030073546976801874298166903427690031858186486050853753882811946569946433649006084096 + u))
      (h + Nat.xor (Nat.xor (Nat.shiftRight (e * 4294967297) 6) (Nat.shiftRight (e * 4294967297) 11)) (Nat.shiftRight (e * 4294967297) 25) + Nat.xor g (Nat.land e (Nat.xor f g)) + k + Nat.shiftRight W 480)
      ((fun p q => (Nat.shiftRight W 480 + Nat.xor (Nat.xor (Nat.shiftRight (q * 4294967297) 7) (Nat.shiftRight (q * 4294967297) 18)) (Nat.shiftRight q 3) + Nat.shiftRight W 192 % 4294967296 + Nat.xor (Nat.xor (Nat.shiftRight (p * 4294967297) 17) (Nat.shiftRight (p * 4294967297) 19)) (Nat.shiftRight p 10)) % 4294967296)
        (Nat.shiftRight W 32 % 4294967296) (Nat.shiftRight W 448 % 4294967296)))
    ks
/-- a word turned, up to what lies above 32 bits -/
theorem rot_two (n x : Nat) (hn : n ≤ 32) (hx : x < 4294967296) : (x * 4294967297) / 2 ^ n % 4294967296 = rotr n x := by
  have hp : 0 < 2 ^ n := Nat.two_pow_pos n
  have e32 : 4294967296 = 2 ^ n * 2 ^ (32 - n) := by rw [← Nat.pow_add, Nat.add_sub_cancel' hn]
  have e1 : x * 4294967297 = 2 ^ n * (x * 2 ^ (32 - n)) + x := by
    rw [show (4294967297 : Nat) = 4294967296 + 1 from rfl, Nat.mul_add, Nat.mul_one, e32, Nat.mul_left_comm]
  rw [e1, Nat.mul_add_div hp]
  have e2 : x * 2 ^ (32 - n) = 4294967296 * (x / 2 ^ n) + x % 2 ^ n * 2 ^ (32 - n) := by
    have : x = 2 ^ n * (x / 2 ^ n) + x % 2 ^ n := (Nat.div_add_mod x (2 ^ n)).symm
    conv => lhs; rw [this]
    rw [Nat.add_mul, e32]
    ac_rfl
  rw [e2, Nat.add_assoc, Nat.mul_add_mod]
  have hr := rotr_lt hn hx
  unfold rotr at hr ⊢
  rw [Nat.add_comm (x % 2 ^ n * 2 ^ (32 - n))]
  exact Nat.mod_eq_of_lt hr
theorem xmod (a b : Nat) : (a ^^^ b) % 4294967296 = (a % 4294967296) ^^^ (b % 4294967296) := Nat.xor_mod_two_pow (n := 32)
theorem shr_div (a n : Nat) : Nat.shiftRight a n = a / 2 ^ n := Nat.shiftRight_eq_div_pow a n
theorem sig3 (x i j k : Nat) (hi : i ≤ 32) (hj : j ≤ 32) (hk : k ≤ 32) (hx : x < 4294967296) : Nat.xor (Nat.xor (Nat.shiftRight (x * 4294967297) i) (Nat.shiftRight (x * 4294967297) j)) (Nat.shiftRight (x * 4294967297) k) % 4294967296 = (rotr i x ^^^ rotr j x) ^^^ rotr k x := by
  show ((Nat.shiftRight (x * 4294967297) i ^^^ Nat.shiftRight (x * 4294967297) j) ^^^ Nat.shiftRight (x * 4294967297) k) % 4294967296 = _
  rw [shr_div, shr_div, shr_div, xmod, xmod, rot_two i x hi hx, rot_two j x hj hx, rot_two k x hk hx]
theorem sig2 (x i j k : Nat) (hi : i ≤ 32) (hj : j ≤ 32) (hx : x < 4294967296) : Nat.xor (Nat.xor (Nat.shiftRight (x * 4294967297) i) (Nat.shiftRight (x * 4294967297) j)) (Nat.shiftRight x k) % 4294967296 = (rotr i x ^^^ rotr j x) ^^^ (x / 2 ^ k) := by
  show ((Nat.shiftRight (x * 4294967297) i ^^^ Nat.shiftRight (x * 4294967297) j) ^^^ Nat.shiftRight x k) % 4294967296 = _
  rw [shr_div, shr_div, shr_div, xmod, xmod, rot_two i x hi hx, rot_two j x hj hx, Nat.mod_eq_of_lt (div_lt32 hx)]
theorem ch_two (e f g : Nat) (he : e < 4294967296) (hf : f < 4294967296) (hg : g < 4294967296) : Nat.xor g (Nat.land e (Nat.xor f g)) = chs e f g := by
  show g ^^^ (e &&& (f ^^^ g)) = (e &&& f) ^^^ ((4294967295 - e) &&& g)
  apply Nat.eq_of_testBit_eq
  intro i
  by_cases h : i < 32
  · have : (4294967295 - e).testBit i = !e.testBit i := by
      have := Nat.testBit_two_pow_sub_succ (n := 32) (x := e) (by omega) i
      rw [show (4294967295 - e) = 2 ^ 32 - (e + 1) from by omega, this]
      simp [h]
    simp only [Nat.testBit_xor, Nat.testBit_and, this]
    cases e.testBit i <;> cases f.testBit i <;> cases g.testBit i <;> rfl
  · have z : ∀ x : Nat, x < 4294967296 → x.testBit i = false := fun x hx => Nat.testBit_lt_two_pow (Nat.lt_of_lt_of_le hx (show 2 ^ 32 ≤ 2 ^ i from Nat.pow_le_pow_right (by decide) (by omega)))
    simp only [Nat.testBit_xor, Nat.testBit_and, z e he, z f hf, z g hg]
    simp
theorem maj_two (a b c : Nat) : Nat.xor (Nat.land a b) (Nat.land c (Nat.xor a b)) = maj a b c := by
  show (a &&& b) ^^^ (c &&& (a ^^^ b)) = ((a &&& b) ^^^ (a &&& c)) ^^^ (b &&& c)
  apply Nat.eq_of_testBit_eq
  intro i
  simp only [Nat.testBit_xor, Nat.testBit_and]
  cases a.testBit i <;> cases b.testBit i <;> cases c.testBit i <;> rfl

/-! the schedule, as it goes on -/
/-- the i-th word, of a schedule with no end -/
def wAt (b : List UInt8) (i : Nat) : Nat := (more i (words b 16)).getD i 0
theorem more_prefix (b : List UInt8) (n i : Nat) (h : i < 16 + n) : (more n (words b 16)).getD i 0 = wAt b i := by
  have step : ∀ n, i < 16 + n → (more (n + 1) (words b 16)).getD i 0 = (more n (words b 16)).getD i 0 := by
    intro n hn
    rw [more_succ, List.getD_eq_getElem?_getD, List.getElem?_append_left (by rw [more_length, words_length]; exact hn), List.getD_eq_getElem?_getD]
  have up : ∀ d n, i < 16 + n → (more (n + d) (words b 16)).getD i 0 = (more n (words b 16)).getD i 0 := by
    intro d
    induction d with
    | zero => intro n _; rfl
    | succ d ih => intro n hn; rw [← Nat.add_assoc, step _ (by omega), ih n hn]
  unfold wAt
  rcases Nat.le_total n i with hle | hle
  · have := up (i - n) n h
    rw [show n + (i - n) = i from by omega] at this
    exact this.symm
  · have := up (n - i) i (by omega)
    rw [show i + (n - i) = n from by omega] at this
    exact this
theorem wAt_next (b : List UInt8) (i : Nat) : wAt b (i + 16) = (wAt b i + sig0 (wAt b (i + 1)) + wAt b (i + 9) + sig1 (wAt b (i + 14))) % 4294967296 := by
  have hl : (more i (words b 16)).length = 16 + i := by rw [more_length, words_length]
  have e : (more (i + 1) (words b 16)).getD (i + 16) 0 = nextW (more i (words b 16)) := by
    have : ∀ (l : List Nat) (x k : Nat), l.length = k → (l ++ [x]).getD k 0 = x := by
      intro l x k hk
      subst hk
      simp
    rw [more_succ]
    exact this _ _ _ (by rw [hl]; omega)
  rw [← more_prefix b (i + 1) (i + 16) (by omega), e, nextW, hl, show 16 + i - 16 = i from by omega, show 16 + i - 15 = i + 1 from by omega, show 16 + i - 7 = i + 9 from by omega, show 16 + i - 2 = i + 14 from by omega,
    more_prefix b i i (by omega), more_prefix b i (i + 1) (by omega), more_prefix b i (i + 9) (by omega), more_prefix b i (i + 14) (by omega)]
theorem wAt_lt (b : List UInt8) (i : Nat) : wAt b i < 4294967296 := getD_lt (more_lt _ _ (words_lt b 16)) (by decide) _
theorem key480' (n m : Nat) (hn : n = m + m) (hm : m = 240) : (3121748550315992231381597229793166305748598142664971150859156959625371738819765620120306103063491971159826931121406622895447975679288285306290176 : Nat) = 2 ^ n := by
  rw [hn, Nat.pow_add, hm]
theorem key480 (n : Nat) (h : n = 480) : (3121748550315992231381597229793166305748598142664971150859156959625371738819765620120306103063491971159826931121406622895447975679288285306290176 : Nat) = 2 ^ n := key480' n 240 (by omega) rfl
theorem key512 (n : Nat) (h : n = 480) : (13407807929942597099574024998205846127479365820592393377723561443721764030073546976801874298166903427690031858186486050853753882811946569946433649006084096 : Nat) = 2 ^ n * 4294967296 := by
  rw [← key480 n h]
theorem shr_mod (W n : Nat) (h : W < 2 ^ n * 4294967296) : Nat.shiftRight W n % 4294967296 = Nat.shiftRight W n := by
  rw [shr_div]
  exact Nat.mod_eq_of_lt (Nat.div_lt_of_lt_mul h)
/-- the sixteen words from i on, as one number -/
def Win (b : List UInt8) (i W : Nat) : Prop := W < 13407807929942597099574024998205846127479365820592393377723561443721764030073546976801874298166903427690031858186486050853753882811946569946433649006084096 ∧ ∀ j, j < 16 → W / 2 ^ (32 * (15 - j)) % 4294967296 = wAt b (i + j)
theorem Win.next {b : List UInt8} {i W u : Nat} (h : Win b i W) (hu : u = wAt b (i + 16)) : Win b (i + 1) (W * 4294967296 % 13407807929942597099574024998205846127479365820592393377723561443721764030073546976801874298166903427690031858186486050853753882811946569946433649006084096 + u) := by
  have hlt : u < 4294967296 := by rw [hu]; exact wAt_lt b _
  have e512 : (13407807929942597099574024998205846127479365820592393377723561443721764030073546976801874298166903427690031858186486050853753882811946569946433649006084096 : Nat) = 3121748550315992231381597229793166305748598142664971150859156959625371738819765620120306103063491971159826931121406622895447975679288285306290176 * 4294967296 := by decide
  have e : W * 4294967296 % 13407807929942597099574024998205846127479365820592393377723561443721764030073546976801874298166903427690031858186486050853753882811946569946433649006084096 = W % 3121748550315992231381597229793166305748598142664971150859156959625371738819765620120306103063491971159826931121406622895447975679288285306290176 * 4294967296 := by rw [e512, Nat.mul_mod_mul_right]
  have hm : W % 3121748550315992231381597229793166305748598142664971150859156959625371738819765620120306103063491971159826931121406622895447975679288285306290176 < 3121748550315992231381597229793166305748598142664971150859156959625371738819765620120306103063491971159826931121406622895447975679288285306290176 := Nat.mod_lt _ (by decide)
  rw [e]
  refine ⟨?_, fun j hj => ?_⟩
  · rw [e512]
    omega
  · by_cases hj15 : j = 15
    · subst hj15
      rw [show 32 * (15 - 15) = 0 from rfl, Nat.pow_zero, Nat.div_one, Nat.mul_comm, Nat.mul_add_mod, Nat.mod_eq_of_lt hlt, hu]
    · have h2 := h.2 (j + 1) (by omega)
      rw [show i + 1 + j = i + (j + 1) from by omega, ← h2]
      obtain ⟨m, hmm⟩ : ∃ m, 15 - j = m + 1 := ⟨14 - j, by omega⟩
      rw [hmm, show 15 - (j + 1) = m from by omega, show 32 * (m + 1) = 32 + 32 * m from by omega, Nat.pow_add, ← Nat.div_div_eq_div_mul]
      rw [show (2 : Nat) ^ 32 = 4294967296 from by decide, show (W % 3121748550315992231381597229793166305748598142664971150859156959625371738819765620120306103063491971159826931121406622895447975679288285306290176 * 4294967296 + u) / 4294967296 = W % 3121748550315992231381597229793166305748598142664971150859156959625371738819765620120306103063491971159826931121406622895447975679288285306290176 from by omega]
      have e480 : (3121748550315992231381597229793166305748598142664971150859156959625371738819765620120306103063491971159826931121406622895447975679288285306290176 : Nat) = 2 ^ (32 * m) * 2 ^ (480 - 32 * m) := by rw [← Nat.pow_add]; exact key480 _ (by omega)
      rw [e480, Nat.mod_mul_right_div_self, Nat.mod_mod_of_dvd _ ?_]
      obtain ⟨r, hr⟩ : ∃ r, 480 - 32 * m = 32 + r := ⟨480 - 32 * m - 32, by omega⟩
      rw [hr, Nat.pow_add]
      exact Nat.dvd_mul_right _ _
theorem Win.first (b : List UInt8) (hb : b.length = 64) : Win b 0 (numB b) := by
  have hl := numB_lt b
  rw [hb] at hl
  have e512 : (13407807929942597099574024998205846127479365820592393377723561443721764030073546976801874298166903427690031858186486050853753882811946569946433649006084096 : Nat) = 256 ^ 64 := by
    rw [show 64 = 31 + 31 + 2 from rfl, Nat.pow_add, Nat.pow_add]
  refine ⟨by rw [e512]; exact hl, fun j hj => ?_⟩
  have h1 := numB_sub b (4 * j) 4 (by omega)
  rw [hb] at h1
  have e : numB ((b.drop (4 * j)).take 4) = word b j := by
    have g : ∀ k, k < 4 → ((b.drop (4 * j)).take 4)[k]? = some (b.getD (4 * j + k) 0) := by
      intro k hk
      rw [List.getElem?_take, if_pos hk, List.getElem?_drop, List.getD_eq_getElem?_getD, List.getElem?_eq_getElem (by omega)]
      rfl
    have e4 : (b.drop (4 * j)).take 4 = [b.getD (4 * j) 0, b.getD (4 * j + 1) 0, b.getD (4 * j + 2) 0, b.getD (4 * j + 3) 0] := by
      apply List.ext_getElem?
      intro k
      match k with
      | 0 => exact g 0 (by decide)
      | 1 => exact g 1 (by decide)
      | 2 => exact g 2 (by decide)
      | 3 => exact g 3 (by decide)
      | k + 4 => rw [List.getElem?_eq_none (by simp; omega), List.getElem?_eq_none (by simp)]
    rw [e4]
    simp [numB, num, word]
  rw [Nat.zero_add]
  have e3 : wAt b j = word b j := by
    rw [← more_prefix b 0 j (by omega)]
    show (words b 16).getD j 0 = _
    rw [words, List.getD_eq_getElem?_getD, List.getElem?_map, List.getElem?_range (by omega)]
    rfl
  rw [e3, ← e, h1, show 64 - 4 * j - 4 = 4 * (15 - j) from by omega, show (256 : Nat) ^ (4 * (15 - j)) = 2 ^ (32 * (15 - j)) from by rw [show (256 : Nat) = 2 ^ 8 from by decide, ← Nat.pow_mul]; congr 1; omega]

/-! rounds -/
def St.num (s : St) : Nat := ((((((s.a * 4294967296 + s.b) * 4294967296 + s.c) * 4294967296 + s.d) * 4294967296 + s.e) * 4294967296 + s.f) * 4294967296 + s.g) * 4294967296 + s.h
def steps (f : St → Nat → Nat → St) (w : Nat → Nat) : List Nat → Nat → St → St
  | [], _, s => s
  | k :: ks, i, s => steps f w ks (i + 1) (f s k (w i))
theorem goF_cons (k : Nat) (ks : List Nat) (a b c d e f g h W : Nat) : goF (k :: ks) a b c d e f g h W =
    goF ks ((h + Nat.xor (Nat.xor (Nat.shiftRight (e * 4294967297) 6) (Nat.shiftRight (e * 4294967297) 11)) (Nat.shiftRight (e * 4294967297) 25) + Nat.xor g (Nat.land e (Nat.xor f g)) + k + Nat.shiftRight W 480 + (Nat.xor (Nat.xor (Nat.shiftRight (a * 4294967297) 2) (Nat.shiftRight (a * 4294967297) 13)) (Nat.shiftRight (a * 4294967297) 22) + Nat.xor (Nat.land a b) (Nat.land c (Nat.xor a b)))) % 4294967296) a b c
      ((d + (h + Nat.xor (Nat.xor (Nat.shiftRight (e * 4294967297) 6) (Nat.shiftRight (e * 4294967297) 11)) (Nat.shiftRight (e * 4294967297) 25) + Nat.xor g (Nat.land e (Nat.xor f g)) + k + Nat.shiftRight W 480)) % 4294967296) e f g
      (W * 4294967296 % 13407807929942597099574024998205846127479365820592393377723561443721764030073546976801874298166903427690031858186486050853753882811946569946433649006084096 + (Nat.shiftRight W 480 + Nat.xor (Nat.xor (Nat.shiftRight (Nat.shiftRight W 448 % 4294967296 * 4294967297) 7) (Nat.shiftRight (Nat.shiftRight W 448 % 4294967296 * 4294967297) 18)) (Nat.shiftRight (Nat.shiftRight W 448 % 4294967296) 3) + Nat.shiftRight W 192 % 4294967296 + Nat.xor (Nat.xor (Nat.shiftRight (Nat.shiftRight W 32 % 4294967296 * 4294967297) 17) (Nat.shiftRight (Nat.shiftRight W 32 % 4294967296 * 4294967297) 19)) (Nat.shiftRight (Nat.shiftRight W 32 % 4294967296) 10)) % 4294967296) := by
  unfold goF
  dsimp only
theorem goF_congr (ks : List Nat) {a a' e e' W W' : Nat} (b c d f g h : Nat) (h1 : a = a') (h2 : e = e') (h3 : W = W') : goF ks a b c d e f g h W = goF ks a' b c d e' f g h W' := by rw [h1, h2, h3]
theorem sig0_of (q x : Nat) (h : q = x) (hx : x < 4294967296) : Nat.xor (Nat.xor (Nat.shiftRight (q * 4294967297) 7) (Nat.shiftRight (q * 4294967297) 18)) (Nat.shiftRight q 3) % 4294967296 = sig0 x := by
  subst h
  exact sig2 q 7 18 3 (by decide) (by decide) hx
theorem sig1_of (q x : Nat) (h : q = x) (hx : x < 4294967296) : Nat.xor (Nat.xor (Nat.shiftRight (q * 4294967297) 17) (Nat.shiftRight (q * 4294967297) 19)) (Nat.shiftRight q 10) % 4294967296 = sig1 x := by
  subst h
  exact sig2 q 17 19 10 (by decide) (by decide) hx
theorem sum_four (w w' x y y' z X Y : Nat) (hw : w = w') (hy : y = y') (h1 : X % 4294967296 = x) (h2 : Y % 4294967296 = z) : (w + X + y + Y) % 4294967296 = (w' + x + y' + z) % 4294967296 := by omega
theorem win_at {b : List UInt8} {i W : Nat} (hW : Win b i W) (j n : Nat) (hj : j < 16) (hn : n = 32 * (15 - j)) : Nat.shiftRight W n % 4294967296 = wAt b (i + j) := by
  subst hn
  rw [shr_div]
  exact hW.2 j hj
theorem win_zero {b : List UInt8} {i W : Nat} (hW : Win b i W) : Nat.shiftRight W 480 = wAt b i :=
  (shr_mod W 480 (Nat.lt_of_lt_of_eq hW.1 (key512 480 rfl))).symm.trans (win_at hW 0 480 (by decide) rfl)
theorem sched_u {b : List UInt8} {i W : Nat} (hW : Win b i W) :
    (Nat.shiftRight W 480 + Nat.xor (Nat.xor (Nat.shiftRight (Nat.shiftRight W 448 % 4294967296 * 4294967297) 7) (Nat.shiftRight (Nat.shiftRight W 448 % 4294967296 * 4294967297) 18)) (Nat.shiftRight (Nat.shiftRight W 448 % 4294967296) 3) + Nat.shiftRight W 192 % 4294967296 + Nat.xor (Nat.xor (Nat.shiftRight (Nat.shiftRight W 32 % 4294967296 * 4294967297) 17) (Nat.shiftRight (Nat.shiftRight W 32 % 4294967296 * 4294967297) 19)) (Nat.shiftRight (Nat.shiftRight W 32 % 4294967296) 10)) % 4294967296 = wAt b (i + 16) := by
  have w1 : Nat.shiftRight W 448 % 4294967296 = wAt b (i + 1) := win_at hW 1 448 (by decide) rfl
  have w9 : Nat.shiftRight W 192 % 4294967296 = wAt b (i + 9) := win_at hW 9 192 (by decide) rfl
  have w14 : Nat.shiftRight W 32 % 4294967296 = wAt b (i + 14) := win_at hW 14 32 (by decide) rfl
  rw [wAt_next]
  exact sum_four _ _ _ _ _ _ _ _ (win_zero hW) w9 (sig0_of _ _ w1 (wAt_lt b _)) (sig1_of _ _ w14 (wAt_lt b _))
theorem fstep_a (s : St) (k w w' X1 X0 c m : Nat) (hw : w = w') (h1 : X1 % 4294967296 = Sig1 s.e) (h0 : X0 % 4294967296 = Sig0 s.a) (hc : c = chs s.e s.f s.g) (hm : m = maj s.a s.b s.c) : (s.h + X1 + c + k + w + (X0 + m)) % 4294967296 = (s.step k w').a := by
  show _ = (t1 s k w' + t2 s) % 4294967296
  rw [t1, t2, ← h1, ← h0, hc, hm, hw]
  omega
theorem fstep_e (s : St) (k w w' X1 c : Nat) (hw : w = w') (h1 : X1 % 4294967296 = Sig1 s.e) (hc : c = chs s.e s.f s.g) : (s.d + (s.h + X1 + c + k + w)) % 4294967296 = (s.step k w').e := by
  show _ = (s.d + t1 s k w') % 4294967296
  rw [t1, ← h1, hc, hw]
  omega
theorem goF_is (b : List UInt8) (ks : List Nat) : ∀ (i : Nat) (s : St) (W : Nat), s.ok → Win b i W → goF ks s.a s.b s.c s.d s.e s.f s.g s.h W = (steps St.step (wAt b) ks i s).num := by
  induction ks with
  | nil => intro i s W _ _; rfl
  | cons k ks ih =>
    intro i s W hs hW
    obtain ⟨ha, hb, hc, hd, he, hf, hg, hh⟩ := hs
    have hst : (s.step k (wAt b i)).ok := step_ok ⟨ha, hb, hc, hd, he, hf, hg, hh⟩ _ _
    have s1 := sig3 s.e 6 11 25 (by decide) (by decide) (by decide) he
    have s0 := sig3 s.a 2 13 22 (by decide) (by decide) (by decide) ha
    have hc' := ch_two _ _ _ he hf hg
    have hm' := maj_two s.a s.b s.c
    have h1 := ih (i + 1) _ _ hst (hW.next (sched_u hW))
    rw [goF_cons, steps, ← h1]
    exact goF_congr ks _ _ _ _ _ _ (fstep_a s k _ _ _ _ _ _ (win_zero hW) s1 s0 hc' hm') (fstep_e s k _ _ _ _ (win_zero hW) s1 hc') rfl
theorem steps_gen (b : List UInt8) (s : St) (K ws : List Nat) (hK : K.length ≤ 64) (hw : ∀ i, i < 64 → ws.getD i 0 = wAt b i) : ∀ (d i : Nat), i + d = K.length → steps St.step (wAt b) (K.drop i) i (roundsTo s K ws i) = roundsTo s K ws K.length := by
  intro d
  induction d with
  | zero =>
    intro i hi
    obtain rfl : i = K.length := by omega
    rw [List.drop_length]
    rfl
  | succ d ih =>
    intro i hi
    rw [← ih (i + 1) (by omega), List.drop_eq_getElem_cons (by omega), steps, roundsTo, hw i (by omega), List.getD_eq_getElem?_getD, List.getElem?_eq_getElem (by omega)]
    rfl
theorem goF_rounds (b : List UInt8) (hb : b.length = 64) (s : St) (hs : s.ok) : goF rootsL s.a s.b s.c s.d s.e s.f s.g s.h (numB b) = (roundsTo s rootsL (sched b) 64).num := by
  rw [goF_is b rootsL 0 s _ hs (Win.first b hb)]
  have hl : rootsL.length = 64 := rfl
  have := steps_gen b s rootsL (sched b) (by rw [hl]; decide) (fun i hi => more_prefix b 48 i (by omega)) 64 0 (by rw [hl])
  rw [hl] at this
  exact congrArg St.num this
end Go.Proofs.YtioahjdojgcfdaaDoor

namespace Go.Proofs.YtioahjdojgcfdaaDoor

theorem num_list (s : St) : s.num = num 4294967296 s.list := by simp [St.num, num, St.list]
theorem list_lt (s : St) (h : s.ok) : ∀ x ∈ s.list, x < 4294967296 := by
  obtain ⟨ha, hb, hc, hd, he, hf, hg, hh⟩ := h
  intro x hx
  simp [St.list] at hx
  rcases hx with rfl | rfl | rfl | rfl | rfl | rfl | rfl | rfl <;> assumption
theorem digit (s : St) (h : s.ok) (i e : Nat) (hi : i < 8) (he : 4294967296 ^ (7 - i) = 2 ^ e) : Nat.shiftRight s.num e % 4294967296 = s.list[i] := by
  have := num_at 4294967296 (by decide) s.list (list_lt s h) i hi
  rw [← num_list] at this
  rw [shr_div, ← this, ← he]
  rfl
def packF (a b c d e f g h r : Nat) : Nat :=
  ((((((((a + Nat.shiftRight r 224) % 4294967296) * 4294967296 + (b + Nat.shiftRight r 192) % 4294967296) * 4294967296 + (c + Nat.shiftRight r 160) % 4294967296) * 4294967296 + (d + Nat.shiftRight r 128) % 4294967296) * 4294967296 + (e + Nat.shiftRight r 96) % 4294967296) * 4294967296 + (f + Nat.shiftRight r 64) % 4294967296) * 4294967296 + (g + Nat.shiftRight r 32) % 4294967296) * 4294967296 + (h + r) % 4294967296
noncomputable def mixG (a b c d e f g h blk : Nat) : Nat := packF a b c d e f g h (goF rootsL a b c d e f g h blk)
noncomputable def mixF (H blk : Nat) : Nat :=
  mixG (Nat.shiftRight H 224 % 4294967296) (Nat.shiftRight H 192 % 4294967296) (Nat.shiftRight H 160 % 4294967296) (Nat.shiftRight H 128 % 4294967296) (Nat.shiftRight H 96 % 4294967296) (Nat.shiftRight H 64 % 4294967296) (Nat.shiftRight H 32 % 4294967296) (H % 4294967296) blk
theorem add_mod_of (a x y : Nat) (h : x % 4294967296 = y) : (a + x) % 4294967296 = (a + y) % 4294967296 := by omega
theorem num_eq (s : St) (a b c d e f g h : Nat) (ha : a = s.a) (hb : b = s.b) (hc : c = s.c) (hd : d = s.d) (he : e = s.e) (hf : f = s.f) (hg : g = s.g) (hh : h = s.h) :
    ((((((a * 4294967296 + b) * 4294967296 + c) * 4294967296 + d) * 4294967296 + e) * 4294967296 + f) * 4294967296 + g) * 4294967296 + h = s.num := by subst ha hb hc hd he hf hg hh; rfl
theorem digit0 (s : St) (h : s.ok) : s.num % 4294967296 = s.h := by
  have := digit s h 7 0 (by decide) (by decide)
  rw [shr_div, Nat.pow_zero, Nat.div_one] at this
  exact this
theorem packF_is (s r : St) (ho : r.ok) : packF s.a s.b s.c s.d s.e s.f s.g s.h r.num = (s.add r).num := by
  have r0 : Nat.shiftRight r.num 224 % 4294967296 = r.a := digit r ho 0 224 (by decide) (by decide)
  have r1 : Nat.shiftRight r.num 192 % 4294967296 = r.b := digit r ho 1 192 (by decide) (by decide)
  have r2 : Nat.shiftRight r.num 160 % 4294967296 = r.c := digit r ho 2 160 (by decide) (by decide)
  have r3 : Nat.shiftRight r.num 128 % 4294967296 = r.d := digit r ho 3 128 (by decide) (by decide)
  have r4 : Nat.shiftRight r.num 96 % 4294967296 = r.e := digit r ho 4 96 (by decide) (by decide)
  have r5 : Nat.shiftRight r.num 64 % 4294967296 = r.f := digit r ho 5 64 (by decide) (by decide)
  have r6 : Nat.shiftRight r.num 32 % 4294967296 = r.g := digit r ho 6 32 (by decide) (by decide)
  exact num_eq (s.add r) _ _ _ _ _ _ _ _ (add_mod_of _ _ _ r0) (add_mod_of _ _ _ r1) (add_mod_of _ _ _ r2) (add_mod_of _ _ _ r3) (add_mod_of _ _ _ r4) (add_mod_of _ _ _ r5) (add_mod_of _ _ _ r6) (add_mod_of _ _ _ (digit0 r ho))
theorem mixG_is (s : St) (hs : s.ok) (b : List UInt8) (hb : b.length = 64) : mixG s.a s.b s.c s.d s.e s.f s.g s.h (numB b) = (s.mix b).num := by
  unfold mixG St.mix
  rw [goF_rounds b hb s hs]
  exact packF_is s _ (roundsTo_ok hs rootsL (sched b) 64)
theorem mixG_congr {a b c d e f g h a' b' c' d' e' f' g' h' : Nat} (blk : Nat) (ha : a = a') (hb : b = b') (hc : c = c') (hd : d = d') (he : e = e') (hf : f = f') (hg : g = g') (hh : h = h') : mixG a b c d e f g h blk = mixG a' b' c' d' e' f' g' h' blk := by subst ha hb hc hd he hf hg hh; rfl
theorem mixF_is (s : St) (hs : s.ok) (b : List UInt8) (hb : b.length = 64) : mixF s.num (numB b) = (s.mix b).num := by
  rw [← mixG_is s hs b hb]
  exact mixG_congr _ (digit s hs 0 224 (by decide) (by decide)) (digit s hs 1 192 (by decide) (by decide)) (digit s hs 2 160 (by decide) (by decide)) (digit s hs 3 128 (by decide) (by decide)) (digit s hs 4 96 (by decide) (by decide)) (digit s hs 5 64 (by decide) (by decide)) (digit s hs 6 32 (by decide) (by decide)) (digit0 s hs)

noncomputable def blkF (p nb n : Nat) : Nat := Nat.rec (motive := fun _ => Nat) 47962653771679561900652889051773562940742041696833059450490514104358170316057 (fun i ih => mixF ih (Nat.shiftRight p (512 * (nb - 1 - i)) % 13407807929942597099574024998205846127479365820592393377723561443721764030073546976801874298166903427690031858186486050853753882811946569946433649006084096)) n
theorem start_num : start.num = 47962653771679561900652889051773562940742041696833059450490514104358170316057 := by decide
theorem fblocks_ok (s : St) (hs : s.ok) (l : List UInt8) (n : Nat) : (blocksTo s l n).ok := by
  cases n with
  | zero => exact hs
  | succ n => exact mix_ok _ _
theorem blkF_is (p : List UInt8) (nb : Nat) (hp : p.length = 64 * nb) : ∀ n, n ≤ nb → blkF (numB p) nb n = (blocksTo start p n).num := by
  intro n
  induction n with
  | zero => intro _; exact start_num.symm
  | succ n ih =>
    intro hn
    have h1 := numB_sub p (64 * n) 64 (by omega)
    have hl : ((p.drop (64 * n)).take 64).length = 64 := by rw [List.length_take, List.length_drop]; omega
    rw [blocksTo, ← mixF_is _ (fblocks_ok _ start_ok _ _) _ hl, ← ih (by omega), h1, hp]
    show mixF (blkF (numB p) nb n) _ = _
    congr 1
    rw [shr_div]
    have e1 : 64 * nb - 64 * n - 64 = 64 * (nb - 1 - n) := by omega
    have e2 : (256 : Nat) ^ (64 * (nb - 1 - n)) = 2 ^ (512 * (nb - 1 - n)) := by
      rw [show (256 : Nat) = 2 ^ 8 from by decide, ← Nat.pow_mul]
      congr 1
      omega
    have e3 : (256 : Nat) ^ 64 = 13407807929942597099574024998205846127479365820592393377723561443721764030073546976801874298166903427690031858186486050853753882811946569946433649006084096 := by rw [show 64 = 31 + 31 + 2 from rfl, Nat.pow_add, Nat.pow_add]
    rw [e1, e2, e3]
noncomputable def digF (T m : Nat) : Nat := blkF ((T * 256 + 128) * 256 ^ ((119 - m % 64) % 64 + 8) + 8 * m % 18446744073709551616) ((m + 72) / 64) ((m + 72) / 64)
theorem numB_one (x : UInt8) : numB [x] = x.toNat := by simp [numB, num]
theorem pad_num (l : List UInt8) : numB (pad l) = (numB l * 256 + 128) * 256 ^ ((119 - l.length % 64) % 64 + 8) + 8 * l.length % 18446744073709551616 := by
  have e : pad l = l ++ [128] ++ List.replicate ((119 - l.length % 64) % 64) 0 ++ be (8 * l.length) 8 := by simp [pad]
  have e8 : numB (be (8 * l.length) 8) = 8 * l.length % 18446744073709551616 := by rw [numB_be]
  rw [e, numB_append, e8, numB_append, numB_zeros, numB_append, numB_one, be_length, List.length_replicate, List.length_singleton, Nat.pow_one, Nat.add_zero, Nat.mul_assoc, ← Nat.pow_add]
  rfl
theorem bytes_num (s : St) (hs : s.ok) : numB s.bytes = s.num := by
  obtain ⟨ha, hb, hc, hd, he, hf, hg, hh⟩ := hs
  have e : s.bytes = be s.a 4 ++ be s.b 4 ++ be s.c 4 ++ be s.d 4 ++ be s.e 4 ++ be s.f 4 ++ be s.g 4 ++ be s.h 4 := by simp [St.bytes, St.list]
  have q : ∀ x, x < 4294967296 → numB (be x 4) = x := fun x hx => by rw [numB_be]; exact Nat.mod_eq_of_lt hx
  rw [e]
  simp only [numB_append, be_length, q _ ha, q _ hb, q _ hc, q _ hd, q _ he, q _ hf, q _ hg, q _ hh]
  rfl
theorem shaL_num (l : List UInt8) : numB (shaL l) = digF (numB l) l.length := by
  unfold shaL digF
  rw [bytes_num _ (fblocks_ok _ start_ok _ _), ← pad_num, blkF_is (pad l) _ (pad_length l) _ (Nat.le_refl _)]

/-! texts: a number and how many bytes it has -/
def txt (t : Nat × Nat) : ByteArray := str (be t.1 t.2)
def foldT : List (Nat × Nat) → Nat → Nat
  | [], T => T
  | t :: r, T => foldT r ((T * 4294967296 + t.2 % 4294967296) * 256 ^ t.2 + t.1 % 256 ^ t.2)
def lenT : List (Nat × Nat) → Nat → Nat
  | [], m => m
  | t :: r, m => lenT r (m + (4 + t.2))
noncomputable def tagF (tag : Nat) (ts : List (Nat × Nat)) : Nat := digF (foldT ts (tag % 256)) (lenT ts 1) / 340282366920938463463374607431768211456 % 340282366920938463463374607431768211456
theorem fold_num : ∀ (ts : List (Nat × Nat)) (p : List UInt8), numB (p ++ (ts.map txt).flatMap fun s => be s.size 4 ++ s.data.toList) = foldT ts (numB p) ∧ (p ++ (ts.map txt).flatMap fun s => be s.size 4 ++ s.data.toList).length = lenT ts p.length
  | [], p => by simp [foldT, lenT]
  | t :: r, p => by
    have hs : (txt t).size = t.2 := by unfold txt; rw [str_size, be_length]
    have hd : (txt t).data.toList = be t.1 t.2 := rfl
    have e : p ++ ((t :: r).map txt).flatMap (fun s => be s.size 4 ++ s.data.toList) = (p ++ be t.2 4 ++ be t.1 t.2) ++ (r.map txt).flatMap (fun s => be s.size 4 ++ s.data.toList) := by
      rw [List.map_cons, List.flatMap_cons, hs, hd]
      simp only [List.append_assoc]
    obtain ⟨h1, h2⟩ := fold_num r (p ++ be t.2 4 ++ be t.1 t.2)
    rw [e, h1, h2]
    constructor
    · rw [numB_append, numB_append, numB_be, numB_be, be_length, be_length]
      rfl
    · rw [lenT]
      congr 1
      simp only [List.length_append, be_length]
      omega
theorem tag_texts (tag : Nat) (ts : List (Nat × Nat)) : tagS (UInt8.ofNat tag) (ts.map txt) = txt (tagF tag ts, 16) := by
  have hT : numB (tagB (UInt8.ofNat tag) (ts.map txt)) = foldT ts (tag % 256) ∧ (tagB (UInt8.ofNat tag) (ts.map txt)).length = lenT ts 1 := by
    have := fold_num ts [UInt8.ofNat tag]
    rw [numB_one] at this
    have e : (UInt8.ofNat tag).toNat = tag % 256 := by simp
    rw [e] at this
    exact this
  unfold tagS txt tagF
  have h1 := numB_sub (shaL (tagB (UInt8.ofNat tag) (ts.map txt))) 0 16 (by rw [shaL_length]; decide)
  rw [shaL_num, shaL_length, hT.1, hT.2, List.drop_zero] at h1
  have h2 := be_numB ((shaL (tagB (UInt8.ofNat tag) (ts.map txt))).take 16)
  rw [List.length_take, shaL_length, h1] at h2
  exact congrArg str h2.symm
end Go.Proofs.YtioahjdojgcfdaaDoor

namespace Go.Proofs.YtioahjdojgcfdaaDoor
open Go.RowKit
attribute [local irreducible] shaL

def nmI (i : Nat) : ByteArray := (⟨#[97]⟩ : ByteArray) ++ str [UInt8.ofNat (97 + i)]
def laI (i : Nat) : LA := ⟨nmI i, UInt8.ofNat i, 1⟩
def audI (i : Nat) : AudS := (laI i).aud
def LI (n : Nat) : List AudS := (List.range n).map audI
def zzL : LA := ⟨⟨#[122, 122]⟩, 200, 1⟩
theorem nmI_names : ((List.range 15).all fun i => decide (normalI [97, UInt8.ofNat (97 + i)] = ([97, UInt8.ofNat (97 + i)], 0))) = true := by kernel_rfl
theorem nmI_name {i : Nat} (h : i < 15) : nameE (nmI i).data.toList = 0 := by
  have h1 := of_decide_eq_true (List.all_eq_true.1 nmI_names i (List.mem_range.2 h))
  have e : (nmI i).data.toList = [97, UInt8.ofNat (97 + i)] := rfl
  unfold nameE
  rw [e, h1]
  simp
theorem zz_name : nameE zzL.n.data.toList = 0 := by
  have h : normalI [122, 122] = ([122, 122], 0) := by kernel_rfl
  unfold nameE
  rw [show zzL.n.data.toList = [122, 122] from rfl, h]
  rfl
theorem nmI_apart : ((List.range 15).all fun i => (List.range i).all fun j => !(decide ([97, UInt8.ofNat (97 + j)] = [97, UInt8.ofNat (97 + i)])) && !(decide (UInt8.ofNat j = UInt8.ofNat i)) && !(decide (([97, UInt8.ofNat (97 + j)] : List UInt8) = [122, 122])) && !(decide (UInt8.ofNat j = 200))) = true := by kernel_rfl
theorem nmI_apart2 : ((List.range 15).all fun j => !(decide (([97, UInt8.ofNat (97 + j)] : List UInt8) = [122, 122])) && !(decide (UInt8.ofNat j = 200))) = true := by kernel_rfl
theorem data_eq {a b : ByteArray} (h : a = b) : a.data.toList = b.data.toList := by rw [h]
theorem addI {i : Nat} (h : i < 15) : addE (LI i) (audI i) = 0 := by
  unfold addE
  have he : (audI i).err = 0 := err_of (x := laI i) (nmI_name h) ⟨by show (0 : Int) ≤ 1; decide, by show (1 : Int) ≤ 6; decide⟩
  rw [if_neg (not_not_intro he)]
  have h1 : hasL (LI i) (audI i) = false := by
    unfold hasL LI
    rw [List.any_eq_false]
    intro y hy
    obtain ⟨j, hj, rfl⟩ := List.mem_map.1 hy
    have hq := List.all_eq_true.1 (List.all_eq_true.1 nmI_apart i (List.mem_range.2 h)) j hj
    simp only [Bool.and_eq_true, Bool.not_eq_true', decide_eq_false_iff_not] at hq
    unfold audI
    rw [like_key]
    have a1 : decide ((laI j).n = (laI i).n) = false := decide_eq_false (fun q => hq.1.1.1 (data_eq q))
    have a2 : decide ((laI j).c = (laI i).c) = false := decide_eq_false (fun q => hq.1.1.2 q)
    rw [a1, a2]
    simp
  rw [h1, if_neg (by simp), if_neg (by unfold LI; rw [List.length_map, List.length_range]; omega)]
theorem addZ {n : Nat} (h : n ≤ 15) : addE (LI n) zzL.aud = 0 := by
  unfold addE
  rw [if_neg (not_not_intro (err_of (x := zzL) zz_name ⟨by show (0 : Int) ≤ 1; decide, by show (1 : Int) ≤ 6; decide⟩))]
  have h1 : hasL (LI n) zzL.aud = false := by
    unfold hasL LI
    rw [List.any_eq_false]
    intro y hy
    obtain ⟨j, hj, rfl⟩ := List.mem_map.1 hy
    have hq := List.all_eq_true.1 nmI_apart2 j (List.mem_range.2 (by have := List.mem_range.1 hj; omega))
    simp only [Bool.and_eq_true, Bool.not_eq_true', decide_eq_false_iff_not] at hq
    unfold audI
    rw [like_key]
    have a1 : decide ((laI j).n = zzL.n) = false := decide_eq_false (fun q => hq.1 (data_eq q))
    have a2 : decide ((laI j).c = zzL.c) = false := decide_eq_false (fun q => hq.2 q)
    rw [a1, a2]
    simp
  rw [h1, if_neg (by simp), if_neg (by unfold LI; rw [List.length_map, List.length_range]; omega)]
theorem LI_succ (i : Nat) : LI (i + 1) = LI i ++ [audI i] := by unfold LI; rw [List.range_succ, List.map_append]; rfl
theorem LI_len (n : Nat) : (LI n).length = n := by unfold LI; rw [List.length_map, List.length_range]
theorem LI_at {n i : Nat} (h : i < n) : audAt (LI n) i = audI i := by
  unfold audAt LI
  rw [List.getElem?_map, List.getElem?_range h]
  rfl
theorem LI_small (n : Nat) : ∀ x ∈ LI n, x.small := by
  intro x hx
  obtain ⟨j, _, rfl⟩ := List.mem_map.1 hx
  exact aud_small (x := laI j) (show (nmI j).size ≤ 1000000 by unfold nmI; rw [ByteArray.size_append, str_size]; show 1 + 1 ≤ 1000000; decide)
/-! places -/
theorem place_txts : ((List.range 15).all fun i => decide (([0, UInt8.ofNat i] : List UInt8) = be i 2)) = true := by kernel_rfl
theorem place_nums : ((List.range 15).all fun i => (List.range i).all fun j => !(tagF 15 [(i, 2)] == tagF 15 [(j, 2)])) = true := by kernel_rfl
theorem place_txt {i : Nat} (h : i < 15) : place20 i = txt (tagF 15 [(i, 2)], 16) := by
  have h1 := of_decide_eq_true (List.all_eq_true.1 place_txts i (List.mem_range.2 h))
  have h2 := tag_texts 15 [(i, 2)]
  unfold place20
  rw [h1]
  exact h2
theorem tagF_lt (t : Nat) (l : List (Nat × Nat)) : tagF t l < 340282366920938463463374607431768211456 := Nat.mod_lt _ (by decide)
theorem place_ne {i j : Nat} (h : i < 15) (hj : j < i) : place20 i ≠ place20 j := by
  intro q
  rw [place_txt h, place_txt (by omega)] at q
  have q1 : be (tagF 15 [(i, 2)]) 16 = be (tagF 15 [(j, 2)]) 16 := data_eq q
  have q2 := congrArg numB q1
  rw [numB_be, numB_be] at q2
  have h1 := tagF_lt 15 [(i, 2)]
  have h2 := tagF_lt 15 [(j, 2)]
  rw [show (256 : Nat) ^ 16 = 340282366920938463463374607431768211456 from rfl, Nat.mod_eq_of_lt h1, Nat.mod_eq_of_lt h2] at q2
  have h3 := List.all_eq_true.1 (List.all_eq_true.1 place_nums i (List.mem_range.2 h)) j (List.mem_range.2 hj)
  rw [q2] at h3
  simp at h3
theorem layM_is {n : Nat} (hn : n ≤ 15) : ∀ k, k ≤ n → layM (LI n) k = (List.range k).map (fun i => (place20 i, val20 (audI i)))
  | 0, _ => rfl
  | k + 1, h => by
    show setM (layM (LI n) k) (place20 k, val20 (audAt (LI n) k)) = _
    rw [layM_is hn k (by omega), LI_at (by omega), List.range_succ, List.map_append]
    unfold setM
    rw [List.filter_eq_self.2]
    · rfl
    · intro p hp
      obtain ⟨j, hj, rfl⟩ := List.mem_map.1 hp
      simp only [Bool.not_eq_true', decide_eq_false_iff_not]
      exact fun q => place_ne (by omega) (List.mem_range.1 hj) q.symm
theorem layM_len {n : Nat} (hn : n ≤ 15) : (layM (LI n) n).length = n := by rw [layM_is hn n (Nat.le_refl _), List.length_map, List.length_range]
theorem val20_I (i : Nat) : val20 (audI i) = tagS 16 [nmI i, pubEnc (keyO (UInt8.ofNat i)) noughts20 1] := by
  unfold val20
  rw [if_pos (show pubErr (audI i).o (audI i).r (audI i).h = 0 by show pubErr (keyO (UInt8.ofNat i)) noughts20 1 = 0; rw [pubErr_key]; rfl)]
  rfl
theorem layM_has {n i : Nat} (hn : n ≤ 15) (hi : i < n) (h1 : (layM (LI n) n).Pairwise (fun p q => p.1 ≠ q.1)) : hasM (layM (LI n) n) (place20 i) = true ∧ valM (layM (LI n) n) (place20 i) = tagS 16 [nmI i, pubEnc (keyO (UInt8.ofNat i)) noughts20 1] := by
  have hm : (place20 i, val20 (audI i)) ∈ layM (LI n) n := by
    rw [layM_is hn n (Nat.le_refl _)]
    exact List.mem_map.2 ⟨i, List.mem_range.2 hi, rfl⟩
  refine ⟨List.any_eq_true.2 ⟨_, hm, by simp⟩, ?_⟩
  rw [← val20_I]
  exact valM_mem h1 _ hm
theorem val20_bad (nm : ByteArray) : val20 ⟨nm, keyO 1, noughts20, 7⟩ = ⟨#[]⟩ := by
  unfold val20
  rw [if_neg (show ¬ pubErr (keyO 1) noughts20 7 = 0 by rw [pubErr_key]; decide)]
end Go.Proofs.YtioahjdojgcfdaaDoor
