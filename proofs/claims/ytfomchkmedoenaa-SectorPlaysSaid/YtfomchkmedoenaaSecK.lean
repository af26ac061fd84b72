/- A disk's contracts, beside blocks of the caller's own: X. -/
import Derived.Test.YtfomchkmedoenaaSecFuse
namespace Go.Proofs.Ytfomchkmedoenaa
open Go.RowKit

/-- block b is a disk that holds D; all of its blocks lie from n0 on, none of them is one of X -/
def KDisk (n0 : Nat) (X : List Nat) (w : World) (b : Nat) (D : DiskS) : Prop := DiskAt (fun i => rest n0 X i ∧ i < w.heap.size) w b D
theorem KDisk.of {n0 : Nat} {X : List Nat} {F : Nat → Prop} {w : World} {b : Nat} {D : DiskS} (h : DiskAt F w b D) (hF : ∀ i, i < w.heap.size → F i → rest n0 X i) : KDisk n0 X w b D := h.mono (fun i hi q => ⟨hF i hi q, hi⟩)
/-- what turns but blocks of X -/
theorem KDisk.turn {n0 : Nat} {X : List Nat} {S : Nat → Prop} {w w' : World} {b : Nat} {D : DiskS} (h : KDisk n0 X w b D) (k : Turn S w w') (hS : ∀ i, i < w.heap.size → S i → i ∈ X) : KDisk n0 X w' b D :=
  KDisk.of (DiskAt.turn h k (fun i hi q s => q.1.2 (hS i hi s))) (fun i _ q => q.1)
theorem KDisk.grown {n0 : Nat} {X : List Nat} {w w' : World} {b : Nat} {D : DiskS} (h : KDisk n0 X w b D) (k : w.grownBy w' none) : KDisk n0 X w' b D := h.turn (S := fun _ => False) (Turn.of_grown k) (fun _ _ q => q.elim)
/-- new blocks of the caller's own -/
theorem KDisk.more {n0 : Nat} {X Y : List Nat} {w w' : World} {b : Nat} {D : DiskS} (h : KDisk n0 X w b D) (k : w.grownBy w' none) (hY : ∀ i ∈ Y, i ∈ X ∨ w.heap.size ≤ i) : KDisk n0 Y w' b D := by
  have := DiskAt.turn (S := fun _ => False) h (Turn.of_grown k) (fun _ _ _ q => q)
  exact KDisk.of this (fun i _ q => ⟨q.1.1, fun hy => by rcases hY i hy with h1 | h1; exact q.1.2 h1; exact absurd q.2 (by omega)⟩)
theorem rest_turn {n0 : Nat} {X : List Nat} {w w' : World} (k : Turn (fun i => rest n0 X i ∧ i < w.heap.size) w w') : Turn (rest n0 X) w w' := k.mono (fun i _ q => q.1)
theorem grow_rest {n0 : Nat} {X : List Nat} {w w' : World} (hX : ∀ x ∈ X, x < w.heap.size) (hn : n0 ≤ w.heap.size) (i : Nat) : grow (fun i => rest n0 X i ∧ i < w.heap.size) w w' i → rest n0 X i := by
  rintro (h | h)
  · exact h.1
  · exact ⟨Nat.le_trans hn h.1, fun hx => absurd (hX i hx) (by have := h.1; omega)⟩

section
variable {n0 : Nat} {X : List Nat} {w : World} {b : Nat} {D : DiskS}
theorem new_k (n : Nat) (h4 : 4 ≤ n) (hn : n ≤ 1024) (w : World) (hX : ∀ x ∈ X, x < w.heap.size) (hn0 : n0 ≤ w.heap.size) :
    Calls Try.prog 5 #[.int .i64 n] w fun e w' => ∃ b, e = .returned (.tuple #[.pointer (some ⟨b, 0, none⟩), .int .i64 0]) ∧ KDisk n0 X w' b (newD n) ∧ w.grownBy w' none :=
  (new_ok n h4 hn w).mono fun e w' ⟨b, q1, q2, q3⟩ => ⟨b, q1, KDisk.of q2 (fun i _ q => ⟨Nat.le_trans hn0 q.1, fun hx => absurd (hX i hx) (by have := q.1; omega)⟩), q3⟩
theorem write_k (hX : ∀ x ∈ X, x < w.heap.size) (hn : n0 ≤ w.heap.size) (i : Nat) (s : ByteArray) (hm : KDisk n0 X w b D) (h : D.on = true) (hi : i < D.last.length) (hs : s.size ≤ 64) (hf : D.fuse ≠ 0) (hf2 : D.fuse ≤ 9223372036854775807) (hwl : D.wait.length ≤ 1000000000) :
    Calls Try.prog 15 #[.pointer (some ⟨b, 0, none⟩), .int .i64 i, .string s] w fun e w' => e = .returned (.int .i64 0) ∧ KDisk n0 X w' b (wroteD D i s) ∧ Turn (rest n0 X) w w' :=
  (write_ok _ b D i s w hm h hi hs hf hf2 hwl).mono fun e w' q => ⟨q.1, KDisk.of q.2.1 (fun i _ z => grow_rest hX hn i z), rest_turn q.2.2⟩
theorem write_power_k (i : Nat) (s : ByteArray) (hm : KDisk n0 X w b D) (h : D.on = true) (hi : i < D.last.length) (hs : s.size ≤ 64) (hf : D.fuse = 0) (hkl : D.keep.length ≤ 9223372036854775807) (hwl : D.wait.length ≤ 1000000000000) :
    Calls Try.prog 15 #[.pointer (some ⟨b, 0, none⟩), .int .i64 i, .string s] w fun e w' => e = .returned (.int .i64 8) ∧ KDisk n0 X w' b (cutD D D.keep) ∧ Turn (rest n0 X) w w' :=
  (write_power _ b D i s w hm h hi hs hf hkl hwl).mono fun e w' q => ⟨q.1, KDisk.of q.2.1 (fun i _ z => z.1), rest_turn q.2.2⟩
theorem sync_k (hm : KDisk n0 X w b D) (h : D.on = true) (h0 : 0 < D.last.length) (hf : D.fuse ≠ 0) (hf2 : D.fuse ≤ 9223372036854775807) (hwl : D.wait.length ≤ 1000000000) :
    Calls Try.prog 10 #[.pointer (some ⟨b, 0, none⟩)] w fun e w' => e = .returned (.int .i64 0) ∧ KDisk n0 X w' b (syncD { D with fuse := decF D.fuse }) ∧ Turn (rest n0 X) w w' :=
  (sync_ok _ b D w hm h h0 hf hf2 hwl).mono fun e w' q => ⟨q.1, KDisk.of q.2.1 (fun i _ z => z.1), rest_turn q.2.2⟩
theorem sync_power_k (hm : KDisk n0 X w b D) (h : D.on = true) (h0 : 0 < D.last.length) (hf : D.fuse = 0) (hkl : D.keep.length ≤ 9223372036854775807) (hwl : D.wait.length ≤ 1000000000000) :
    Calls Try.prog 10 #[.pointer (some ⟨b, 0, none⟩)] w fun e w' => e = .returned (.int .i64 8) ∧ KDisk n0 X w' b (cutD D D.keep) ∧ Turn (rest n0 X) w w' :=
  (sync_power _ b D w hm h h0 hf hkl hwl).mono fun e w' q => ⟨q.1, KDisk.of q.2.1 (fun i _ z => z.1), rest_turn q.2.2⟩
theorem cut_k (ka : Option Addr) (kc m : Nat) (ks : List UInt8) (hm : KDisk n0 X w b D) (h0 : 0 < D.last.length)
    (hk : BytesAt w (.slice ka m kc) ks) (hkl : m ≤ 9223372036854775807) (hwl : D.wait.length ≤ 1000000000000) (hkg : ∀ g o, ka = some ⟨g, o, none⟩ → g < n0) :
    Calls Try.prog 12 #[.pointer (some ⟨b, 0, none⟩), .slice ka m kc] w fun e w' => e = .returned (.tuple #[]) ∧ KDisk n0 X w' b (cutD D ks) ∧ Turn (rest n0 X) w w' := by
  obtain rfl : ks.length = m := by obtain ⟨_, _, e, _⟩ := hk; injection e with _ e _; exact e.symm
  exact (cut_at _ b D ka kc ks w hm h0 hk hkl hwl (fun g o e q => by have := hkg g o e; have := q.1.1; omega)).mono fun e w' q => ⟨q.1, KDisk.of q.2.1 (fun i _ z => z.1), rest_turn q.2.2⟩
theorem fuse_k (hX : ∀ x ∈ X, x < w.heap.size) (hn : n0 ≤ w.heap.size) (n : Int) (a : Option Addr) (m c : Nat) (ks : List UInt8) (hm : KDisk n0 X w b D) (hb : BytesAt w (.slice a m c) ks) (hml : m ≤ 140737488351232) (hab : ∀ g o, a = some ⟨g, o, none⟩ → g < n0) :
    Calls Try.prog 11 #[.pointer (some ⟨b, 0, none⟩), .int .i64 n, .slice a m c] w fun e w' => e = .returned (.tuple #[]) ∧ KDisk n0 X w' b (fuseD D n ks) ∧ Turn (rest n0 X) w w' :=
  (fuse_at _ b D n a m c ks w hm hb hml (fun g o e q => by have := hab g o e; have := hm.own.1.1; omega)).mono fun e w' q => ⟨q.1, KDisk.of q.2.1 (fun i _ z => grow_rest hX hn i z), rest_turn q.2.2⟩
end
theorem BytesAt.below {n0 : Nat} {w w' : World} {v : Value} {l : List UInt8} (h : BytesAt w v l) (k : Below n0 w w') (hb : ∀ a c, v = .slice a l.length c → ∀ g o, a = some ⟨g, o, none⟩ → g < n0) : BytesAt w' v l := by
  obtain ⟨a, c, e, hc⟩ := h
  refine ⟨a, c, e, fun i hi => ?_⟩
  obtain ⟨g, o, e2, h⟩ := hc i hi
  exact ⟨g, o, e2, (k.cell (p := ⟨g, o + i, none⟩) (hb a c e g o e2)).trans h⟩

/-! ### Lists of acts: what is read of each -/
/-- the sector that is meant: the two lowest bits -/
def low2 (z : Int) : Nat := (z % 4).toNat
theorem low2_lt (z : Int) : low2 z < 4 := by unfold low2; omega
theorem and3 (z : Int) : bits .and .i64 z 3 = ((low2 z : Nat) : Int) := by
  have h1 : (BitVec.ofInt 64 z).toNat = (z % (2 ^ 64 : Nat)).toNat := by rw [BitVec.toNat_ofInt]
  have h3 : (BitVec.ofInt 64 (3 : Int)).toNat = 3 := by decide
  show IntKind.i64.wrap ((BitVec.ofInt 64 z &&& BitVec.ofInt 64 (3 : Int)).toNat : Int) = _
  rw [BitVec.toNat_and, h1, h3, show (3 : Nat) = 2 ^ 2 - 1 from rfl, Nat.and_two_pow_sub_one_eq_mod]
  have h4 : (z % (2 ^ 64 : Nat)).toNat % 2 ^ 2 = low2 z := by unfold low2; omega
  rw [h4]
  have := low2_lt z
  exact IntWalk.i64_in _ (by omega)
end Go.Proofs.Ytfomchkmedoenaa
