/- A struct of nine cells: an update in memory. No walk. · A key's own signatures are verified: plain words. · Plain functions for package label: a text's runes. Nothing here names the program. · The walks of label.Runes and label.Alphabets. · The walk of the document's Next (plumbobref01). · The walk of the document's Next (plumbobref01): runes of three and four bytes. · The document's Next (plumbobref01) at every text. · The walk of the document's Runes (plumbobref01). · Out of the listed variables: package sha's two tables in memory; and a world for the witness. · Texts out of rows of bytes. No walk. · Arguments opened: arrays of bytes, slices of integers. No walk. · A row's post, where the call has only made memory. No walk. -/
import Derived.Test.YtemndmhdlgfajaaGreatDoorPolB
import Derived.Test.YtemndmhdlgfajaaGreatDoorEntA
import Derived.Test.YtemndmhdlgfajaaGreatDoorXmssC
import Derived.WalkKit
import Derived.Lib.MapLaws
import Derived.Lib.ValidLaws
import Derived.Lib.TrimUEq
import Derived.Test.YtemndmhdlgfajaaGreatDoorLabelInt
import Derived.Test.YtemndmhdlgfajaaGreatDoorLay
import Derived.Laws.RangeAny
import Derived.Lib.OthersKept
import Derived.Deep.LoopGhost
import Derived.Test.YtemndmhdlgfajaaGreatDoorRows
import Derived.WalkSpells
import Derived.WalkLawsBesides
import Derived.Lib.Hide
import Derived.Test.YtemndmhdlgfajaaGreatDoorCards
import Derived.Test.YtemndmhdlgfajaaGreatDoorTie
import Derived.Test.YtemndmhdlgfajaaGreatDoorShaCalls
import Derived.Lib.LaidIn
import Derived.Lib.LaidU8T
import Derived.Deep.DeepHandedRow
import Derived.Deep.DeepWitnessRowRef
import Derived.ProofKit
import Derived.OpenShut
import Derived.ShutString
import Derived.Test.YtemndmhdlgfajaaGreatDoorPolicyCodesB1
import Derived.Laws.IdiomStrings
import Derived.Test.YtemndmhdlgfajaaGreatDoorPolicyCodesB2
import Derived.WideKeyArr2
import Derived.ChangeSlices
namespace Go.Proofs.YtemndmhdlgfajaaGreatDoor
open Go.RowKit

def updL (l : ByteArray) (x : EntS) (i : Nat) (c p : Value) : List Value := [.string l, .int .u64 x.v, .string x.o, .string x.r, .int .i64 x.h, .string x.p, .int .i64 i, c, p]
/-- an update, as a value -/
def updV (l : ByteArray) (x : EntS) (i : Nat) (c p : Value) : Value := .agg #[.string l, .int .u64 x.v, .string x.o, .string x.r, .int .i64 x.h, .string x.p, .int .i64 i, c, p]
def updZ : Value := .agg #[.string ⟨#[]⟩, .int .u64 0, .string ⟨#[]⟩, .string ⟨#[]⟩, .int .i64 0, .string ⟨#[]⟩, .int .i64 0, .slice none 0 0, .slice none 0 0]
theorem cells9 {w : World} {b : Nat} {t : TypeId} {v0 v1 v2 v3 v4 v5 v6 v7 v8 : Value} (h : w.heap[b]? = some (.cells #[v0, v1, v2, v3, v4, v5, v6, v7, v8] t (0, 0))) :
    w.cell? ⟨b, 0, none⟩ = some v0 ∧ w.cell? ⟨b, 1, none⟩ = some v1 ∧ w.cell? ⟨b, 2, none⟩ = some v2 ∧ w.cell? ⟨b, 3, none⟩ = some v3 ∧ w.cell? ⟨b, 4, none⟩ = some v4 ∧ w.cell? ⟨b, 5, none⟩ = some v5 ∧ w.cell? ⟨b, 6, none⟩ = some v6 ∧ w.cell? ⟨b, 7, none⟩ = some v7 ∧ w.cell? ⟨b, 8, none⟩ = some v8 := by
  refine ⟨?_, ?_, ?_, ?_, ?_, ?_, ?_, ?_, ?_⟩ <;> rw [cell_of h] <;> rfl
theorem heap9 {w : World} {n : Nat} {t : TypeId} {u0 u1 u2 u3 u4 u5 u6 u7 u8 : Value} (h : w.heap[n]? = some (.cells #[u0, u1, u2, u3, u4, u5, u6, u7, u8] t (0, 0))) (v0 v1 v2 v3 v4 v5 v6 v7 v8 : Value) :
    (((((((((w.setCell ⟨n, 0, none⟩ v0).setCell ⟨n, 1, none⟩ v1).setCell ⟨n, 2, none⟩ v2).setCell ⟨n, 3, none⟩ v3).setCell ⟨n, 4, none⟩ v4).setCell ⟨n, 5, none⟩ v5).setCell ⟨n, 6, none⟩ v6).setCell ⟨n, 7, none⟩ v7).setCell ⟨n, 8, none⟩ v8).heap[n]? = some (.cells #[v0, v1, v2, v3, v4, v5, v6, v7, v8] t (0, 0)) := by
  have h1 : (((w.setCell ⟨n, 0, none⟩ v0).setCell ⟨n, 1, none⟩ v1).setCell ⟨n, 2, none⟩ v2).heap[n]? = some (.cells #[v0, v1, v2, u3, u4, u5, u6, u7, u8] t (0, 0)) := (heap_setCell (heap_setCell (heap_setCell h 0 v0) 1 v1) 2 v2).trans rfl
  generalize (((w.setCell ⟨n, 0, none⟩ v0).setCell ⟨n, 1, none⟩ v1).setCell ⟨n, 2, none⟩ v2) = wa at h1 ⊢
  have h2 : (((wa.setCell ⟨n, 3, none⟩ v3).setCell ⟨n, 4, none⟩ v4).setCell ⟨n, 5, none⟩ v5).heap[n]? = some (.cells #[v0, v1, v2, v3, v4, v5, u6, u7, u8] t (0, 0)) := (heap_setCell (heap_setCell (heap_setCell h1 3 v3) 4 v4) 5 v5).trans rfl
  generalize (((wa.setCell ⟨n, 3, none⟩ v3).setCell ⟨n, 4, none⟩ v4).setCell ⟨n, 5, none⟩ v5) = wb at h2 ⊢
  exact (heap_setCell (heap_setCell (heap_setCell h2 6 v6) 7 v7) 8 v8).trans rfl
theorem grown9 (w : World) (n : Nat) (v0 v1 v2 v3 v4 v5 v6 v7 v8 : Value) : w.grownBy (((((((((w.setCell ⟨n, 0, none⟩ v0).setCell ⟨n, 1, none⟩ v1).setCell ⟨n, 2, none⟩ v2).setCell ⟨n, 3, none⟩ v3).setCell ⟨n, 4, none⟩ v4).setCell ⟨n, 5, none⟩ v5).setCell ⟨n, 6, none⟩ v6).setCell ⟨n, 7, none⟩ v7).setCell ⟨n, 8, none⟩ v8) (some n) :=
  (grownBy_setCell (grownBy_setCell (grownBy_setCell (grownBy_setCell (grownBy_setCell (grownBy_setCell (grownBy_setCell (grownBy_setCell (grownBy_setCell (World.grownBy.refl w _) 0 _) 1 _) 2 _) 3 _) 4 _) 5 _) 6 _) 7 _) 8 _)
theorem results_psign {n : Nat} {v0 v1 v2 v3 v4 v5 v6 v7 v8 : Value} {z : Int} {tmps : Array Value} {w : World} (h6 : tmps[8]? = some (.pointer (some ⟨n, 0, none⟩))) (h7 : tmps[9]? = some (.int .i64 z)) (hb : w.heap[n]? = some (.cells #[v0, v1, v2, v3, v4, v5, v6, v7, v8] 39 (0, 0))) :
    (results Tryz.f8 tmps).run Tryz.prog w = .ok (.tuple #[.agg #[v0, v1, v2, v3, v4, v5, v6, v7, v8], .int .i64 z]) w := by
  obtain ⟨c0, c1, c2, c3, c4, c5, c6, c7, c8⟩ := cells9 hb
  simp [results, Tryz.results8, go_sem, h6, h7, c0, c1, c2, c3, c4, c5, c6, c7, c8]
theorem results_pdec {n : Nat} {v0 v1 v2 v3 v4 v5 v6 v7 v8 : Value} {z : Int} {tmps : Array Value} {w : World} (h6 : tmps[2]? = some (.pointer (some ⟨n, 0, none⟩))) (h7 : tmps[3]? = some (.int .i64 z)) (hb : w.heap[n]? = some (.cells #[v0, v1, v2, v3, v4, v5, v6, v7, v8] 39 (0, 0))) :
    (results Tryz.f11 tmps).run Tryz.prog w = .ok (.tuple #[.agg #[v0, v1, v2, v3, v4, v5, v6, v7, v8], .int .i64 z]) w := by
  obtain ⟨c0, c1, c2, c3, c4, c5, c6, c7, c8⟩ := cells9 hb
  simp [results, Tryz.results11, go_sem, h6, h7, c0, c1, c2, c3, c4, c5, c6, c7, c8]
end Go.Proofs.YtemndmhdlgfajaaGreatDoor

namespace Go.Proofs.YtemndmhdlgfajaaGreatDoor
open Go.RowKit
attribute [local irreducible] shaL

theorem rec_pub (seed : ByteArray) (leaf : Nat) (d : List UInt8) (h : d.length = 16) : publicOfS (openS seed) leaf (recS (openS seed) leaf (digs d) (sigS seed leaf (digs d) 35) 35) = publicS seed leaf := by
  rw [rec_sig seed leaf (digs d) (digs_bd d h) 35 (by rw [digs_length]; omega) 35 (Nat.le_refl _)]
  rfl
theorem leavesS_at (seed : ByteArray) (h i : Nat) (hi : i < 2 ^ h) : (leavesS seed h)[i]? = some (publicS seed i) := by simp [leavesS, hi]
/-- P8.2: a key's signature climbs to its root -/
theorem sign_climbs (seed m : ByteArray) (h i : Nat) (hi : i < 2 ^ h) : climbS (publicOfS (openS seed) i (recS (openS seed) i (digs (digestS (openS seed) i m).data.toList) (chainsS seed i m) 35)) i (pathS h (leavesS seed h) i) = rootK seed h := by
  unfold chainsS
  have e := rec_pub seed i (digestS (openS seed) i m).data.toList (digestS_size _ _ _)
  rw [e]
  exact climb_path h _ i _ (leavesS_length seed h) (leavesS_at seed h i hi)
theorem chains_16 (seed m : ByteArray) (i : Nat) : ∀ s ∈ chainsS seed i m, s.size = 16 := sigS_all _ _ _ _
theorem chains_35 (seed m : ByteArray) (i : Nat) : (chainsS seed i m).length = 35 := sigS_length _ _ _ _
theorem path_small (seed : ByteArray) (h i : Nat) : ∀ s ∈ pathS h (leavesS seed h) i, s.size ≤ 1000000000000 := pathS_sizes _ _ _ _ (by decide) (fun s hs => by rw [leavesS_sizes seed h s hs]; decide)
end Go.Proofs.YtemndmhdlgfajaaGreatDoor

namespace Go.Proofs.YtemndmhdlgfajaaGreatDoor
open Go.Lib

/-- a text's runes, as a range over it gives them -/
def runesN : Nat → List UInt8 → List Nat
  | 0, _ => []
  | n + 1, l => if l = [] then [] else (decodeL l).1 :: runesN n (l.drop (decodeL l).2)
def runes (l : List UInt8) : List Nat := runesN l.length l

theorem runesN_more : ∀ (n m : Nat) (l : List UInt8), l.length ≤ n → l.length ≤ m → runesN n l = runesN m l
  | 0, 0, _, _, _ => rfl
  | 0, m + 1, l, h, _ => by
    have : l = [] := List.eq_nil_of_length_eq_zero (by omega)
    simp [runesN, this]
  | n + 1, 0, l, _, h => by
    have : l = [] := List.eq_nil_of_length_eq_zero (by omega)
    simp [runesN, this]
  | n + 1, m + 1, l, h1, h2 => by
    unfold runesN
    by_cases hl : l = []
    · simp [hl]
    · rw [if_neg hl, if_neg hl]
      have hw := decodeL_width l
      have hp : 0 < l.length := List.length_pos_iff.2 hl
      rw [runesN_more n m (l.drop (decodeL l).2) (by simp; omega) (by simp; omega)]
theorem runes_nil : runes [] = [] := rfl
theorem runes_step (l : List UInt8) (h : l ≠ []) : runes l = (decodeL l).1 :: runes (l.drop (decodeL l).2) := by
  have hp : 0 < l.length := List.length_pos_iff.2 h
  have hw := decodeL_width l
  obtain ⟨n, hn⟩ : ∃ n, l.length = n + 1 := ⟨l.length - 1, by omega⟩
  unfold runes
  rw [hn]
  conv => lhs; unfold runesN
  rw [if_neg h, runesN_more n (l.drop (decodeL l).2).length _ (by simp; omega) (Nat.le_refl _)]

/-- the document's next rune -/
def bad (l : List UInt8) : Prop := (decodeL l).1 = 65533 ∧ (decodeL l).2 = 1
instance (l : List UInt8) : Decidable (bad l) := by unfold bad; infer_instance
def refNextL (l : List UInt8) : Nat × Nat := if l = [] then (0, 0) else if bad l then (0, 0) else decodeL l

theorem validD_nil : validD [] = true := rfl
theorem runes_length_le : ∀ (n : Nat) (l : List UInt8), l.length ≤ n → (runes l).length ≤ l.length
  | 0, l, h => by
    have : l = [] := List.eq_nil_of_length_eq_zero (by omega)
    simp [this, runes_nil]
  | n + 1, l, h => by
    by_cases hl : l = []
    · simp [hl, runes_nil]
    · rw [runes_step l hl]
      have hw := decodeL_width l
      have hle := decodeL_le l hl
      have := runes_length_le n (l.drop (decodeL l).2) (by simp; omega)
      simp at this ⊢
      omega

/-- the document's next rune, by its bytes -/
def refB (n b0 b1 b2 b3 : Nat) : Nat × Nat :=
  if b0 < 128 then (b0, 1)
  else if 192 ≤ b0 ∧ b0 < 224 then
    (if n < 2 then (0, 0) else if b1 < 128 ∨ 192 ≤ b1 then (0, 0) else if (b0 - 192) * 64 + (b1 - 128) < 128 then (0, 0) else ((b0 - 192) * 64 + (b1 - 128), 2))
  else if 224 ≤ b0 ∧ b0 < 240 then
    (if n < 3 then (0, 0) else if b1 < 128 ∨ 192 ≤ b1 then (0, 0) else if b2 < 128 ∨ 192 ≤ b2 then (0, 0) else
      if (b0 - 224) * 4096 + (b1 - 128) * 64 + (b2 - 128) < 2048 ∨ (55296 ≤ (b0 - 224) * 4096 + (b1 - 128) * 64 + (b2 - 128) ∧ (b0 - 224) * 4096 + (b1 - 128) * 64 + (b2 - 128) < 57344) then (0, 0) else ((b0 - 224) * 4096 + (b1 - 128) * 64 + (b2 - 128), 3))
  else if 240 ≤ b0 ∧ b0 < 248 then
    (if n < 4 then (0, 0) else if b1 < 128 ∨ 192 ≤ b1 then (0, 0) else if b2 < 128 ∨ 192 ≤ b2 then (0, 0) else if b3 < 128 ∨ 192 ≤ b3 then (0, 0) else
      if (b0 - 240) * 262144 + (b1 - 128) * 4096 + (b2 - 128) * 64 + (b3 - 128) < 65536 ∨ 1114111 < (b0 - 240) * 262144 + (b1 - 128) * 4096 + (b2 - 128) * 64 + (b3 - 128) then (0, 0) else ((b0 - 240) * 262144 + (b1 - 128) * 4096 + (b2 - 128) * 64 + (b3 - 128), 4))
  else (0, 0)

theorem refB_eq (n b0 b1 b2 b3 : Nat) (h0 : b0 < 256) (h1 : b1 < 256) (h2 : b2 < 256) (h3 : b3 < 256) :
    refB n b0 b1 b2 b3 = if (decodeN n b0 b1 b2 b3).1 = 65533 ∧ (decodeN n b0 b1 b2 b3).2 = 1 then (0, 0) else decodeN n b0 b1 b2 b3 := by
  by_cases c0 : b0 < 128
  · have e : decodeN n b0 b1 b2 b3 = (b0, 1) := by unfold decodeN; rw [if_pos c0]
    have r : refB n b0 b1 b2 b3 = (b0, 1) := by unfold refB; rw [if_pos c0]
    rw [e, r, if_neg (by intro h; have := h.1; simp at this; omega)]
  · by_cases c2 : 192 ≤ b0 ∧ b0 < 224
    · have k2 : b0 / 32 = 6 := by omega
      have m2 : b0 % 32 = b0 - 192 := by omega
      by_cases d : n < 2 ∨ b1 < 128 ∨ 192 ≤ b1
      · have e : decodeN n b0 b1 b2 b3 = (65533, 1) := by
          unfold decodeN
          rw [if_neg c0, if_neg (by omega), if_neg (by omega), if_neg (by omega)]
        have r : refB n b0 b1 b2 b3 = (0, 0) := by
          unfold refB
          rw [if_neg c0, if_pos c2]
          by_cases hn : n < 2
          · rw [if_pos hn]
          · rw [if_neg hn, if_pos (by omega)]
        rw [e, r, if_pos ⟨rfl, rfl⟩]
      · have m1 : b1 % 64 = b1 - 128 := by omega
        have e : decodeN n b0 b1 b2 b3 = if (b0 - 192) * 64 + (b1 - 128) ≥ 128 then ((b0 - 192) * 64 + (b1 - 128), 2) else (65533, 1) := by
          unfold decodeN
          rw [if_neg c0, if_pos (by omega), m2, m1]
        have r : refB n b0 b1 b2 b3 = if (b0 - 192) * 64 + (b1 - 128) < 128 then (0, 0) else ((b0 - 192) * 64 + (b1 - 128), 2) := by
          unfold refB
          rw [if_neg c0, if_pos c2, if_neg (by omega), if_neg (by omega)]
        by_cases hv : (b0 - 192) * 64 + (b1 - 128) < 128
        · have e' : decodeN n b0 b1 b2 b3 = (65533, 1) := by rw [e, if_neg (by omega)]
          rw [e', r, if_pos hv, if_pos ⟨rfl, rfl⟩]
        · rw [if_pos (by omega)] at e
          rw [e, r, if_neg hv, if_neg (by intro h; have := h.2; simp at this)]
    · by_cases c3 : 224 ≤ b0 ∧ b0 < 240
      · have k3 : b0 / 16 = 14 := by omega
        have m2 : b0 % 16 = b0 - 224 := by omega
        by_cases d : n < 3 ∨ (b1 < 128 ∨ 192 ≤ b1) ∨ (b2 < 128 ∨ 192 ≤ b2)
        · have e : decodeN n b0 b1 b2 b3 = (65533, 1) := by
            unfold decodeN
            rw [if_neg c0, if_neg (by omega), if_neg (by omega), if_neg (by omega)]
          have r : refB n b0 b1 b2 b3 = (0, 0) := by
            unfold refB
            rw [if_neg c0, if_neg c2, if_pos c3]
            by_cases hn : n < 3
            · rw [if_pos hn]
            · rw [if_neg hn]
              by_cases h1' : b1 < 128 ∨ 192 ≤ b1
              · rw [if_pos h1']
              · rw [if_neg h1', if_pos (by omega)]
          rw [e, r, if_pos ⟨rfl, rfl⟩]
        · have m1 : b1 % 64 = b1 - 128 := by omega
          have m3 : b2 % 64 = b2 - 128 := by omega
          obtain ⟨v, hv⟩ : ∃ v, v = (b0 - 224) * 4096 + (b1 - 128) * 64 + (b2 - 128) := ⟨_, rfl⟩
          have e : decodeN n b0 b1 b2 b3 = if v ≥ 2048 ∧ (v < 55296 ∨ (57344 ≤ v ∧ v ≤ 1114111)) then (v, 3) else (65533, 1) := by
            unfold decodeN
            rw [if_neg c0, if_neg (by omega), if_pos (by omega), m2, m1, m3, ← hv]
          have r : refB n b0 b1 b2 b3 = if v < 2048 ∨ (55296 ≤ v ∧ v < 57344) then (0, 0) else (v, 3) := by
            unfold refB
            rw [if_neg c0, if_neg c2, if_pos c3, if_neg (by omega), if_neg (by omega), if_neg (by omega), ← hv]
          by_cases hw : v < 2048 ∨ (55296 ≤ v ∧ v < 57344)
          · have e' : decodeN n b0 b1 b2 b3 = (65533, 1) := by rw [e, if_neg (by omega)]
            rw [e', r, if_pos hw, if_pos ⟨rfl, rfl⟩]
          · rw [if_pos (by omega)] at e
            rw [e, r, if_neg hw, if_neg (by intro h; have := h.2; simp at this)]
      · by_cases c4 : 240 ≤ b0 ∧ b0 < 248
        · have k4 : b0 / 8 = 30 := by omega
          have m2 : b0 % 8 = b0 - 240 := by omega
          by_cases d : n < 4 ∨ (b1 < 128 ∨ 192 ≤ b1) ∨ (b2 < 128 ∨ 192 ≤ b2) ∨ (b3 < 128 ∨ 192 ≤ b3)
          · have e : decodeN n b0 b1 b2 b3 = (65533, 1) := by
              unfold decodeN
              rw [if_neg c0, if_neg (by omega), if_neg (by omega), if_neg (by omega)]
            have r : refB n b0 b1 b2 b3 = (0, 0) := by
              unfold refB
              rw [if_neg c0, if_neg c2, if_neg c3, if_pos c4]
              by_cases hn : n < 4
              · rw [if_pos hn]
              · rw [if_neg hn]
                by_cases h1' : b1 < 128 ∨ 192 ≤ b1
                · rw [if_pos h1']
                · rw [if_neg h1']
                  by_cases h2' : b2 < 128 ∨ 192 ≤ b2
                  · rw [if_pos h2']
                  · rw [if_neg h2', if_pos (by omega)]
            rw [e, r, if_pos ⟨rfl, rfl⟩]
          · have m1 : b1 % 64 = b1 - 128 := by omega
            have m3 : b2 % 64 = b2 - 128 := by omega
            have m4 : b3 % 64 = b3 - 128 := by omega
            obtain ⟨v, hv⟩ : ∃ v, v = (b0 - 240) * 262144 + (b1 - 128) * 4096 + (b2 - 128) * 64 + (b3 - 128) := ⟨_, rfl⟩
            have e : decodeN n b0 b1 b2 b3 = if v ≥ 65536 ∧ (v < 55296 ∨ (57344 ≤ v ∧ v ≤ 1114111)) then (v, 4) else (65533, 1) := by
              unfold decodeN
              rw [if_neg c0, if_neg (by omega), if_neg (by omega), if_pos (by omega), m2, m1, m3, m4, ← hv]
            have r : refB n b0 b1 b2 b3 = if v < 65536 ∨ 1114111 < v then (0, 0) else (v, 4) := by
              unfold refB
              rw [if_neg c0, if_neg c2, if_neg c3, if_pos c4, if_neg (by omega), if_neg (by omega), if_neg (by omega), if_neg (by omega), ← hv]
            by_cases hw : v < 65536 ∨ 1114111 < v
            · have e' : decodeN n b0 b1 b2 b3 = (65533, 1) := by rw [e, if_neg (by omega)]
              rw [e', r, if_pos hw, if_pos ⟨rfl, rfl⟩]
            · rw [if_pos (by omega)] at e
              rw [e, r, if_neg hw, if_neg (by intro h; have := h.2; simp at this)]
        · have e : decodeN n b0 b1 b2 b3 = (65533, 1) := by
            unfold decodeN
            rw [if_neg c0, if_neg (by omega), if_neg (by omega), if_neg (by omega)]
          have r : refB n b0 b1 b2 b3 = (0, 0) := by
            unfold refB
            rw [if_neg c0, if_neg c2, if_neg c3, if_neg c4]
          rw [e, r, if_pos ⟨rfl, rfl⟩]

theorem refNextL_eq (l : List UInt8) (h : l ≠ []) : refNextL l = refB l.length (l.getD 0 0).toNat (l.getD 1 0).toNat (l.getD 2 0).toNat (l.getD 3 0).toNat := by
  have hb : ∀ k, (l.getD k 0).toNat < 256 := fun k => (l.getD k 0).toNat_lt
  rw [refB_eq _ _ _ _ _ (hb 0) (hb 1) (hb 2) (hb 3), ← decodeL_N]
  unfold refNextL bad
  rw [if_neg h]
end Go.Proofs.YtemndmhdlgfajaaGreatDoor

namespace Go.Proofs.YtemndmhdlgfajaaGreatDoor
open Go.RowKit Go.Lib

/-- unicode/utf8's two tables -/
abbrev TabsAt (w : World) : Prop := Lib.Utf8Tabs (Tryz.laysValid_ren.g 3) (Tryz.laysValid_ren.g 4) w

set_option maxRecDepth 100000 in
set_option maxHeartbeats 1000000 in
theorem runes_bad (s : ByteArray) (w : World) (hs : s.size ≤ 4611686018427387904) (hT : TabsAt w) (hv : validD s.data.toList = false) :
    Calls Tryz.prog 147 #[.string s] w fun e w' => e = .returned (.tuple #[.int .i64 0, .bool false]) ∧ Below w.heap.size w w' := by
  have HT := Lib.hid hT
  have HV := Lib.hid hv
  clear hT hv
  go_enter Tryz.func147, Tryz.ntmps147
  go_wp2_with fail
  refine (Tryz.utf8_ValidString s _ (by omega) HT.out).mono ?_
  rintro e w1 ⟨rfl, hb⟩
  rw [HV.out]
  have HB := Lib.hid hb
  clear hb
  go_wp2
  go_ret2
  exact ⟨rfl, HB.out⟩

theorem pos_step (s : ByteArray) (pos : Nat) (h : pos < s.size) : 1 ≤ (Utf8.decode s pos).2 ∧ pos + (Utf8.decode s pos).2 ≤ s.size ∧ runes (s.data.toList.drop pos) = (Utf8.decode s pos).1 :: runes (s.data.toList.drop (pos + (Utf8.decode s pos).2)) := by
  have hne : s.data.toList.drop pos ≠ [] := by
    intro e
    have : (s.data.toList.drop pos).length = 0 := by rw [e]; rfl
    rw [List.length_drop] at this
    have h2 : s.data.toList.length = s.size := rfl
    omega
  have hd := decodeL_drop s pos
  have h1 := decodeL_width (s.data.toList.drop pos)
  have h2 := decodeL_le _ hne
  have h3 := runes_step _ hne
  rw [hd] at h1 h2 h3
  rw [List.length_drop] at h2
  have h4 : s.data.toList.length = s.size := rfl
  refine ⟨h1, by omega, ?_⟩
  rw [h3, List.drop_drop]

set_option maxRecDepth 100000 in
set_option maxHeartbeats 1000000 in
theorem runes_good (s : ByteArray) (w : World) (hs : s.size ≤ 4611686018427387904) (hT : TabsAt w) (hv : validD s.data.toList = true) :
    Calls Tryz.prog 147 #[.string s] w fun e w' => e = .returned (.tuple #[.int .i64 (runes s.data.toList).length, .bool true]) ∧ Below w.heap.size w w' := by
  have HT := Lib.hid hT
  have HV := Lib.hid hv
  clear hT hv
  go_enter Tryz.func147, Tryz.ntmps147
  go_wp2_with fail
  refine (Tryz.utf8_ValidString s _ (by omega) HT.out).mono ?_
  rintro e w1 ⟨rfl, hb⟩
  rw [HV.out]
  have HB := Lib.hid hb
  clear hb
  go_wp2_with fail
  go_loopw [4] (fun v wr => ∃ pos n : Nat, pos ≤ s.size ∧ n ≤ pos ∧ v = .int .i64 n ∧ Hid (n + (runes (s.data.toList.drop pos)).length = (runes s.data.toList).length) ∧ wr = w1.iter s pos) (fun _ wr => s.size - wr.iterPos w1.heap.size)
  case atStart => exact ⟨0, 0, Nat.zero_le _, Nat.le_refl _, rfl, by simp [Hid], rfl⟩
  case round =>
    obtain ⟨pos, n, hp, hn, rfl, HL, rfl⟩ := hrel
    by_cases hlt : pos < s.size
    · have hnx := fun ty => run_next_any (P := Tryz.prog) w1 s pos ty hlt
      obtain ⟨k1, k2, k3⟩ := pos_step s pos hlt
      have HS := Lib.hid (And.intro k1 (And.intro k2 k3))
      clear k1 k2 k3
      go_wp2
      go_roundw
      case rel =>
        refine ⟨pos + (Utf8.decode s pos).2, n + 1, HS.out.2.1, by have := HS.out.1; omega, by go_num, ?_, rfl⟩
        have := HL.out
        rw [HS.out.2.2, List.length_cons] at this
        show _ = _
        omega
      case measure =>
        have := HS.out.1
        simp
        omega
    · have hnx := fun ty => run_next_end (P := Tryz.prog) w1 s pos ty hlt
      go_wp2
      go_ret2
      have hd : s.data.toList.drop pos = [] := List.drop_eq_nil_of_le (by show s.size ≤ pos; omega)
      have := HL.out
      rw [hd, runes_nil] at this
      simp only [List.length_nil, Nat.add_zero] at this
      refine ⟨?_, (HB.out.alloc HB.out.size _ : Below _ _ (w1.iter s pos))⟩
      rw [← this]
      rfl

/-- the alphabets of some runes, one behind the other -/
def alphOf (a : Int) (l : List Nat) : Int := l.foldl (fun (a : Int) (r : Nat) => bits .or .i64 a (letterI (r : Int))) a

set_option maxRecDepth 100000 in
set_option maxHeartbeats 1000000 in
theorem alphabets_any (s : ByteArray) (w : World) (hs : s.size ≤ 4611686018427387904) (hA : AlphaAt w) (hG : 4 < w.heap.size) :
    Calls Tryz.prog 200 #[.string s] w fun e w' => e = .returned (.int .i64 (alphOf 0 (runes s.data.toList))) ∧ Below w.heap.size w w' := by
  have HA := Lib.hid hA
  clear hA
  go_enter Tryz.func200, Tryz.ntmps200
  go_wp2_with fail
  go_loopg [3, 5] s.size (fun g v _ wr => ∃ pos : Nat, ∃ a : Int, pos + g ≥ s.size ∧ pos ≤ s.size ∧ v = .int .i64 a ∧ Aside (alphOf a (runes (s.data.toList.drop pos)) = alphOf 0 (runes s.data.toList)) ∧ Hid (wr.heap[w.heap.size]? = some (.stringIter s pos)) ∧ Hid (Below w.heap.size w wr))
  case atStart => exact ⟨0, 0, by omega, Nat.zero_le _, rfl, by simp [Aside], w.iter_heap s 0, (Below.refl _ _).alloc (Nat.le_refl _) _⟩
  case round =>
    obtain ⟨pos, a, hg, hp, rfl, HL, HI, HB⟩ := hrel
    by_cases hlt : pos < s.size
    · have hnx := fun ty => run_next_any_at (P := Tryz.prog) wr w.heap.size s pos ty HI.out hlt
      obtain ⟨k1, k2, k3⟩ := pos_step s pos hlt
      have HS := Lib.hid (And.intro k1 (And.intro k2 k3))
      have hr : ((Utf8.decode s pos).1 : Int) ≤ 1114111 := by
        have := decodeL_rune (s.data.toList.drop pos)
        rw [decodeL_drop] at this
        omega
      clear k1 k2 k3
      have HB2 := Lib.hid (below_iterAt HB.out (Nat.le_refl _) s (pos + (Utf8.decode s pos).2))
      have HI2 := Lib.hid (iterAt_heap wr w.heap.size s pos (pos + (Utf8.decode s pos).2) HI.out)
      go_wp2_with fail
      refine (alphabetOf_any _ ⟨by omega, by omega⟩ _ (HA.out.below HB2.out hG) (Nat.lt_of_lt_of_le hG HB2.out.size)).mono ?_
      rintro e w2 ⟨rfl, hb2⟩
      have HB3 : Hid (Below w.heap.size w w2) := HB2.out.trans (hb2.mono HB2.out.size)
      have HI3 : Hid (w2.heap[w.heap.size]? = some (.stringIter s (pos + (Utf8.decode s pos).2))) := (hb2.block _ (Array.getElem?_eq_some_iff.1 HI2.out).1).trans HI2.out
      clear hb2 hnx
      go_wp2_with fail
      go_roundg (gk - 1)
      case measure => omega
      case rel =>
        refine ⟨pos + (Utf8.decode s pos).2, _, by have := HS.out.1; omega, HS.out.2.1, rfl, ?_, HI3, HB3⟩
        have := HL.out
        rw [HS.out.2.2] at this
        exact this
    · have hnx := fun ty => run_next_end_at (P := Tryz.prog) wr w.heap.size s pos ty HI.out hlt
      go_wp2
      go_ret
      have hd : s.data.toList.drop pos = [] := List.drop_eq_nil_of_le (by show s.size ≤ pos; omega)
      have := HL.out
      rw [hd, runes_nil] at this
      refine ⟨?_, HB.out⟩
      rw [← this]
      rfl
end Go.Proofs.YtemndmhdlgfajaaGreatDoor

namespace Go.Proofs.YtemndmhdlgfajaaGreatDoor
open Go.RowKit

theorem tup_eq {A B : Int} {x : Nat × Nat} (h : ∃ a b : Nat, x = (a, b) ∧ A = a ∧ B = b) : Ending.returned (.tuple #[.int .i64 A, .int .i64 B]) = .returned (.tuple #[.int .i64 x.1, .int .i64 x.2]) := by
  obtain ⟨a, b, rfl, rfl, rfl⟩ := h
  rfl

theorem refB_0 {n b0 b1 b2 b3 : Nat} (h : b0 < 128) : refB n b0 b1 b2 b3 = (b0, 1) := by unfold refB; rw [if_pos h]
theorem refB_none {n b0 b1 b2 b3 : Nat} (h : (128 ≤ b0 ∧ b0 < 192) ∨ 248 ≤ b0) : refB n b0 b1 b2 b3 = (0, 0) := by
  unfold refB; rw [if_neg (by omega), if_neg (by omega), if_neg (by omega), if_neg (by omega)]
theorem refB_short {n b0 b1 b2 b3 : Nat} (h : (192 ≤ b0 ∧ b0 < 224 ∧ n < 2) ∨ (224 ≤ b0 ∧ b0 < 240 ∧ n < 3) ∨ (240 ≤ b0 ∧ b0 < 248 ∧ n < 4)) : refB n b0 b1 b2 b3 = (0, 0) := by
  unfold refB
  rcases h with h | h | h
  · rw [if_neg (by omega), if_pos (by omega), if_pos (by omega)]
  · rw [if_neg (by omega), if_neg (by omega), if_pos (by omega), if_pos (by omega)]
  · rw [if_neg (by omega), if_neg (by omega), if_neg (by omega), if_pos (by omega), if_pos (by omega)]

end Go.Proofs.YtemndmhdlgfajaaGreatDoor

namespace Go.Proofs.YtemndmhdlgfajaaGreatDoor
open Go.RowKit

theorem byte_atL (s : ByteArray) (k : Nat) (h : k < s.size) : (s[k]'h).toNat = (s.data.toList.getD k 0).toNat := by
  have hk : k < s.data.toList.length := h
  rw [List.getD_eq_getElem?_getD, List.getElem?_eq_getElem hk]
  rfl

end Go.Proofs.YtemndmhdlgfajaaGreatDoor

namespace Go.Proofs.YtemndmhdlgfajaaGreatDoor
open Go.RowKit Go.Lib

theorem infoInt : (Tryz.prog.info? 3).map (fun i => (i.zero, i.size, i.bytes)) = some (some (.int .i64 0), 1, 8) := by kernel_rfl

/-- a list of runes as cells -/
def runeInts (l : List Nat) : List Value := l.map fun (r : Nat) => .int .i64 (r : Int)

theorem cell_at_new (w : World) (v : Value) (t : TypeId) : (w.alloc (.cells #[v] t)).cell? ⟨w.heap.size, 0, none⟩ = some v := by
  have h : (w.alloc (.cells #[v] t)).heap[w.heap.size]? = some (.cells #[v] t (0, 0)) := by
    show (w.heap.push _)[w.heap.size]? = _
    simp
  exact cell_of_row _ w.heap.size 0 #[v] t (0, 0) h

end Go.Proofs.YtemndmhdlgfajaaGreatDoor

namespace Go.Proofs.YtemndmhdlgfajaaGreatDoor
open Go.ChangeShapes Go.WideShapes Go.ChangeAt Go.RowKit Go.Lib Go.Shelf

/-- a listed array of 32-bit numbers, cell by cell -/
theorem u32_of_reads {w : World} {name : String} {g t : Nat} {n : Nat} (L : List Nat) (hL : L.length = n) (hn : Tryz.prog.globalNamed name = some g) (hy : (Tryz.prog.globals[g]?).map (·.type) = some t)
    (hu : Tryz.prog.underlying t = some (.array n 22)) (hc : Tryz.prog.cellsOf 22 = 1)
    (h : VarReads Tryz.prog w name (.agg (L.map fun n : Nat => .lit (.int .u32 (n : Int))))) (i : Nat) (hi : i < n) : w.cell? ⟨g, i, none⟩ = some (.int .u32 (L.getD i 0 : Nat)) := by
  obtain ⟨g', t', cs, fuel, p, hg, hty, hvar, hd⟩ := h
  obtain rfl := Option.some.inj (hn.symm.trans hg)
  obtain rfl := Option.some.inj (hy.symm.trans hty)
  obtain ⟨fuel', d, q, hdi, he⟩ := array_elem hu hd i hi
  rw [hc] at he
  obtain ⟨z, e0, x0, _⟩ := DataW.trod_int Tryz.underlying22 he
  have hd2 : d = .lit (.int .u32 (L.getD i 0 : Nat)) := by
    have hlt : i < L.length := by omega
    rw [List.getElem?_map, List.getElem?_eq_getElem hlt] at hdi
    rw [List.getD_eq_getElem?_getD, List.getElem?_eq_getElem hlt]
    exact (Option.some.inj hdi).symm
  rw [hd2] at x0
  rw [World.var?_cell hn hvar i]
  have := congrArg (fun l : List Value => l[0]?) e0
  simp [List.getElem?_take, List.getElem?_drop] at this
  rw [this]
  simp only [Prod.mk.injEq, DataW.lit.injEq, Lit.int.injEq, true_and] at x0
  rw [x0.1]

theorem start_is : (Rows.laid_plumbob_sha_start : DataW Unit) = .agg (start.list.map fun n : Nat => .lit (.int .u32 (n : Int))) := by kernel_rfl
theorem roots_is : (Rows.laid_plumbob_sha_roots : DataW Unit) = .agg (rootsL.map fun n : Nat => .lit (.int .u32 (n : Int))) := by kernel_rfl
theorem nStart : Tryz.prog.globalNamed "plumbob/sha.start" = some 0 := by kernel_rfl
theorem yStart : (Tryz.prog.globals[0]?).map (·.type) = some 162 := by kernel_rfl
theorem nRoots : Tryz.prog.globalNamed "plumbob/sha.roots" = some 1 := by kernel_rfl
theorem yRoots : (Tryz.prog.globals[1]?).map (·.type) = some 201 := by kernel_rfl
theorem cU32 : Tryz.prog.cellsOf 22 = 1 := by kernel_rfl
theorem shaReady_of_laid {w : World} (h : laidMet Tryz.prog [("plumbob/sha.start", Rows.laid_plumbob_sha_start), ("plumbob/sha.roots", Rows.laid_plumbob_sha_roots)] w) : ShaReady w := by
  have h1 := Lib.laidMet.reads h (.head _)
  have h2 := Lib.laidMet.reads h (.tail _ (.head _))
  rw [start_is] at h1
  rw [roots_is] at h2
  refine ⟨fun j v hv => ?_, fun i hi => u32_of_reads rootsL rfl nRoots yRoots Tryz.underlying201 cU32 h2 i hi⟩
  have hj : j < 8 := by
    have := (List.getElem?_eq_some_iff.1 hv).1
    rwa [u32s_length, St.list_length] at this
  rw [Nat.zero_add, u32_of_reads start.list rfl nStart yStart Tryz.underlying162 cU32 h1 j hj, ← hv, u32s_at _ _ (by rw [St.list_length]; exact hj)]

/-- the settled world, the two variables holding what their texts lay -/
noncomputable def shaWorld (os : Os) : World :=
  let w0 := World.holding Tryz.prog os ⟨#[], #[], []⟩
  let put (h : Array Obj) (g : Nat) (cs : Array Value) : Array Obj := h.modify g fun
    | .cells _ t frozen => .cells cs t frozen
    | o => o
  let h1 := put w0.heap 0 (u32s start.list).toArray
  let h2 := put h1 1 (u32s rootsL).toArray
  { w0 with heap := h2 }
theorem sha_met (os : Os) (args : Array Value) : laidMet Tryz.prog [("plumbob/sha.start", Rows.laid_plumbob_sha_start), ("plumbob/sha.roots", Rows.laid_plumbob_sha_roots)] ((shaWorld os).forCall (fun _ _ => 0) ⟨#[], args, []⟩).memory :=
  (LaidIn.of_run (l := [("plumbob/sha.start", Rows.laid_plumbob_sha_start), ("plumbob/sha.roots", Rows.laid_plumbob_sha_roots)]) [0, 1] 8 (by kernel_rfl) (by kernel_rfl) (by kernel_rfl) (by kernel_rfl)).met
theorem own : ownKnob Tryz.prog.godebug = none := by kernel_rfl
end Go.Proofs.YtemndmhdlgfajaaGreatDoor

namespace Go.Proofs.YtemndmhdlgfajaaGreatDoor
open Go.RowKit

def bytesV (l : List UInt8) : List Value := l.map fun c => .int .u8 c.toNat
theorem infoB : (Tryz.prog.info? 5).map (fun i => (i.zero, i.size, i.bytes)) = some (some (.int .u8 0), 1, 1) := by kernel_rfl
theorem made_bytes (n : Nat) : (madeCells #[Value.int .u8 0] n).toList = bytesV (List.replicate n 0) := by
  apply List.ext_getElem?
  intro i
  simp [madeCells, bytesV, List.getElem?_replicate]
  by_cases h : i < n <;> simp [h, Nat.mod_one]
/-- 'string(b)', b a row of the call's own that holds bytes -/
theorem own_str {wr : World} {B g k cap : Nat} {l : List UInt8} (h : wr.ownsRow B 5 1 (.slice (some ⟨g, 0, none⟩) k cap) k (bytesV l)) :
    (convert 141 9 (.slice (some ⟨g, 0, none⟩) k cap)).run Tryz.prog wr = .ok (.string (str l)) wr := by
  have hl : l.length = k := by simpa [bytesV] using h.1
  subst hl
  refine run_convert_bytes_back wr 141 9 5 _ cap l Tryz.underlying141 Tryz.underlying5 Tryz.underlying9 fun j hj => ?_
  rw [show Addr.add ⟨g, 0, none⟩ j = (⟨g, j, none⟩ : Addr) from by simp [Addr.add]; omega, h.cellAt j (by simpa using hj)]
  simp [bytesV, List.getElem?_eq_getElem hj]
/-- 'string(b[:])', b a block of bytes -/
theorem blk_str {w : World} {g : Nat} {l : List UInt8} {t : TypeId} (h : w.heap[g]? = some (.cells (bytesV l).toArray t (0, 0))) (cap : Nat) :
    (convert 141 9 (.slice (some ⟨g, 0, none⟩) l.length cap)).run Tryz.prog w = .ok (.string (str l)) w := by
  refine run_convert_bytes_back w 141 9 5 _ cap l Tryz.underlying141 Tryz.underlying5 Tryz.underlying9 fun j hj => ?_
  rw [show Addr.add ⟨g, 0, none⟩ j = (⟨g, j, none⟩ : Addr) from by simp [Addr.add]; omega, cell_of h, List.getElem?_toArray]
  simp [bytesV, List.getElem?_eq_getElem hj]
end Go.Proofs.YtemndmhdlgfajaaGreatDoor

namespace Go.Proofs.YtemndmhdlgfajaaGreatDoor
open Go.RowKit Go.ChangeShapes Go.WideShapes

theorem cell_plain' {w : World} {a : Addr} {n : Nat} {v : Value} (h : w.cell? (a.add n) = some v) : w.cell? ⟨a.block, a.off + n, none⟩ = some v := by
  have hs := World.cell?_spot h
  obtain ⟨b, o, sp⟩ := a
  by_cases hn : n = 0
  · subst hn
    have : sp = none := by simpa [Addr.add] using hs
    subst this
    simpa [Addr.add] using h
  · simpa [Addr.add, hn] using h

section
variable {H : Type} {enc : TypeId × Value → H} {P : Program} {w : World} {base : Nat} {spare : Nat → Bool} {held : Bool}
def byteOf : Value → UInt8 | .int _ n => UInt8.ofNat n.toNat | _ => 0
/-- an array of bytes -/
theorem open_byte_array {r : Reach} {b0 : Nat} {t e : TypeId} {n : Nat} {v : Value} {d : DataW H} {p : List MemPlace} (hu : P.underlying t = some (.array n e)) (he : P.underlying e = some (.int .u8)) (hce : P.cellsOf e = 1) (hct : P.cellsOf t = n)
    (hval : Value.okWide P w r b0 t v) (h : DataW.Trod enc P w base spare held t v d p) : ∃ l : List UInt8, l.length = n ∧ v = .agg (bytesV l).toArray := by
  simp only [Value.okWide, hu] at hval
  obtain ⟨cs, rfl, hsz, -⟩ := hval
  obtain ⟨fuel, hf⟩ := h
  obtain ⟨xs, m, rfl, hx, hcl, hxl, hat⟩ := DataW.trod_array hu hf
  have hcs : cs.toList.length = n := by rw [← hct]; simpa using hsz
  refine ⟨cs.toList.map byteOf, by simpa using hcs, ?_⟩
  congr 1
  apply Array.toList_inj.1
  apply List.ext_getElem (by simp [bytesV])
  intro i h1 h2
  have hi : i < n := by omega
  have h3 := hat i hi
  have hxi : xs[i]? = some (xs[i]'(by omega)) := List.getElem?_eq_getElem (by omega)
  have h4 : ((Value.agg cs).cells.toList.drop (i * P.cellsOf e)).take (P.cellsOf e) = [cs.toList[i]] := by
    rw [hce, Nat.mul_one]
    show (cs.toList.drop i).take 1 = _
    rw [List.drop_eq_getElem_cons (by omega)]
    rfl
  rw [h4, hxi] at h3
  obtain ⟨a, ea, -, wa⟩ := DataW.trod_int he h3
  simp only [List.cons.injEq, and_true] at ea
  have hb : 0 ≤ a ∧ a ≤ 255 := by simpa [Lit.wf, IntKind.min, IntKind.max, IntKind.signed, IntKind.bits] using wa
  simp only [bytesV, List.getElem_map, List.getElem_toArray, ea, byteOf]
  congr 1
  simp
  omega
/-- a slice of integers: nil, or cells -/
theorem open_int_slice {t e : TypeId} {a0 : Option Addr} {len cap : Nat} {d : DataW H} {p : List MemPlace} (ht : P.underlying t = some (.slice e)) (he : P.underlying e = some (.int .i64)) (hc : P.cellsOf e = 1)
    (h : DataW.Trod enc P w base spare held t (.slice a0 len cap) d p) : ∃ L : List Int, L.length = len ∧ IntsAt w (.slice a0 len cap) L ∧ len ≤ cap ∧ cap ≤ maxLen ∧ ∀ x ∈ L, -9223372036854775808 ≤ x ∧ x ≤ 9223372036854775807 := by
  obtain ⟨fuel, hf⟩ := h
  rcases open_ints ht he hc hf with ⟨hcs, hx⟩ | ⟨a, len', cap', zs, hcs, _, hl, hm, hz, hx, hcell, hws⟩
  · have hv : Value.slice a0 len cap = .slice none 0 0 := by simpa [Value.cells] using hcs
    cases hv
    exact ⟨[], rfl, IntsAt.nil _ _ _, Nat.le_refl _, by unfold maxLen; omega, by simp⟩
  · have hv : Value.slice a0 len cap = .slice (some a) len' cap' := by simpa [Value.cells] using hcs
    cases hv
    have hls : len ≤ zs.length := by rw [hz]; split <;> omega
    have hlen : (zs.take len).length = len := by simp; omega
    refine ⟨zs.take len, hlen, ⟨some a, cap, by rw [hlen], fun i hi => ?_⟩, hl, hm, fun x hx => ?_⟩
    · have hc' := hcell i (by omega)
      have h00 := World.cell?_spot (hcell 0 (by omega))
      obtain ⟨g, o, sp⟩ := a
      obtain rfl : sp = none := by simpa [Addr.add] using h00
      refine ⟨g, o, rfl, ?_⟩
      rw [cell_plain' hc', List.getElem_take, List.getD_eq_getElem?_getD, List.getElem?_eq_getElem (by omega)]
      rfl
    · have := hws x (List.mem_of_mem_take hx)
      simpa [Lit.wf, IntKind.min, IntKind.max, IntKind.signed, IntKind.bits] using this
/-- an array of integers -/
theorem open_int_array {r : Reach} {b0 : Nat} {t e : TypeId} {n : Nat} {k : IntKind} {v : Value} {d : DataW H} {p : List MemPlace} (hu : P.underlying t = some (.array n e)) (he : P.underlying e = some (.int k)) (hce : P.cellsOf e = 1) (hct : P.cellsOf t = n)
    (hval : Value.okWide P w r b0 t v) (h : DataW.Trod enc P w base spare held t v d p) : ∃ l : List Int, l.length = n ∧ (∀ x ∈ l, (Lit.int k x).wf = true) ∧ v = .agg (l.map (Value.int k)).toArray := by
  simp only [Value.okWide, hu] at hval
  obtain ⟨cs, rfl, hsz, -⟩ := hval
  obtain ⟨fuel, hf⟩ := h
  obtain ⟨xs, m, rfl, hx, hcl, hxl, hat⟩ := DataW.trod_array hu hf
  have hcs : cs.toList.length = n := by rw [← hct]; simpa using hsz
  have each : ∀ i (hi : i < n), ∃ a, cs.toList[i]'(by omega) = .int k a ∧ (Lit.int k a).wf = true := by
    intro i hi
    have h3 := hat i hi
    have hxi : xs[i]? = some (xs[i]'(by omega)) := List.getElem?_eq_getElem (by omega)
    have h4 : ((Value.agg cs).cells.toList.drop (i * P.cellsOf e)).take (P.cellsOf e) = [cs.toList[i]'(by omega)] := by
      rw [hce, Nat.mul_one]
      show (cs.toList.drop i).take 1 = _
      rw [List.drop_eq_getElem_cons (by omega)]
      rfl
    rw [h4, hxi] at h3
    obtain ⟨a, ea, -, wa⟩ := DataW.trod_int he h3
    simp only [List.cons.injEq, and_true] at ea
    exact ⟨a, ea, wa⟩
  refine ⟨cs.toList.map intOf, by simpa using hcs, ?_, ?_⟩
  · intro x hx
    obtain ⟨v, hv, rfl⟩ := List.mem_map.1 hx
    obtain ⟨i, hi, rfl⟩ := List.getElem_of_mem hv
    obtain ⟨a, ea, wa⟩ := each i (by omega)
    rw [ea]
    exact wa
  · congr 1
    apply Array.toList_inj.1
    apply List.ext_getElem (by simp)
    intro i h1 h2
    obtain ⟨a, ea, wa⟩ := each i (by omega)
    simp only [List.getElem_map, ea, intOf]
end
end Go.Proofs.YtemndmhdlgfajaaGreatDoor

namespace Go.Proofs.YtemndmhdlgfajaaGreatDoor
open Go.ChangeShapes Go.WideShapes Go.ChangeAt Go.RowKit

variable {H : Type} {enc : TypeId × Value → H} {P : Program}

/-- The row's post where nothing that was there has turned ('again' is false: nothing is asked of what is frozen). -/
theorem post_of_below {f : Func} {s : ChangeSpec} {apart fresh handsOn : Bool} {W W' : World} {args : Array Value} {v : Value} {ds gs : List (DataW H)} {before pa pv : List MemPlace}
    (hW : DataW.Whole enc P f.params.toList s.vars apart W args.toList ds gs before)
    (hres : ∀ (b : Nat) (sp : Nat → Bool) (hd : Bool), DataW.TrodAll enc P W' b sp hd f.resultTypes.toList (v.resultList f.resultTypes.size) (s.fn H (ds ++ gs)).results [])
    (hargs : ∀ sp : Nat → Bool, (∀ p ∈ before, sp p.block = true) → DataW.TrodAll enc P W' 0 sp true f.params.toList args.toList (s.fn H (ds ++ gs)).args pa)
    (hvars : ∀ sp : Nat → Bool, (∀ p ∈ before, sp p.block = true) → DataW.TrodVars enc P W' sp s.vars (s.fn H (ds ++ gs)).vars pv)
    (hps : before = pa ++ pv) (hk : Below W.heap.size W W') :
    s.post enc P f apart fresh handsOn false W args v W' := by
  have hold : ∀ p ∈ before, (fun b => decide (b < W.heap.size)) p.block = true := fun p hp => by simpa using hW.lt p hp
  refine ⟨ds, gs, before, [], pa, pv, hW, hres _ _ _, hargs _ hold, hvars _ hold, World.keptBut_mono (fun p hp => ⟨hp, ?_⟩) (hk.frame (· ∈ before)), fun h => by cases h⟩
  rw [hps, List.mem_append] at hp
  exact Or.inr hp

/-- The same, what was handed in being read again by 'Below.trod'. -/
theorem post_of_below_at {f : Func} {s : ChangeSpec} {apart fresh handsOn : Bool} {W W' : World} {args : Array Value} {v : Value} {ds gs : List (DataW H)} {before pa pv : List MemPlace}
    (hW : DataW.Whole enc P f.params.toList s.vars apart W args.toList ds gs before)
    (hres : ∀ (b : Nat) (sp : Nat → Bool) (hd : Bool), DataW.TrodAll enc P W' b sp hd f.resultTypes.toList (v.resultList f.resultTypes.size) (s.fn H (ds ++ gs)).results [])
    (hargs : DataW.TrodAll enc P W' 0 (fun b => decide (b < W.heap.size)) true f.params.toList args.toList (s.fn H (ds ++ gs)).args pa)
    (hvars : DataW.TrodVars enc P W' (fun b => decide (b < W.heap.size)) s.vars (s.fn H (ds ++ gs)).vars pv)
    (hps : before = pa ++ pv) (hk : Below W.heap.size W W') :
    s.post enc P f apart fresh handsOn false W args v W' := by
  refine ⟨ds, gs, before, [], pa, pv, hW, hres _ _ _, hargs, hvars, World.keptBut_mono (fun p hp => ⟨hp, ?_⟩) (hk.frame (· ∈ before)), fun h => by cases h⟩
  rw [hps, List.mem_append] at hp
  exact Or.inr hp
end Go.Proofs.YtemndmhdlgfajaaGreatDoor
