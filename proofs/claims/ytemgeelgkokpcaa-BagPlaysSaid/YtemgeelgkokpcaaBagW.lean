/- Layer 27's law: its acts as plain data; what holds at the head of its loop. No walk. -/
import Derived.Test.YtemgeelgkokpcaaBagS
import Derived.Maps.AppendAt
namespace Go.Proofs.Ytemgeelgkokpcaa
open Go.RowKit

structure ActB where
  what : Int
  i : Int
  at_ : Int
  body : ByteArray
structure ActB.ok (x : ActB) : Prop where
  w : -9223372036854775808 ≤ x.what ∧ x.what ≤ 9223372036854775807
  b : x.body.size ≤ maxLen
def ActsB (w : World) (v : Value) (L : List ActB) : Prop :=
  ∃ a cap, v = .slice a L.length cap ∧ ∀ i (h : i < L.length), ∃ g o, a = some ⟨g, o, none⟩ ∧ w.cell? ⟨g, o + i * 4, none⟩ = some (.int .i64 L[i].what) ∧ w.cell? ⟨g, o + i * 4 + 1, none⟩ = some (.int .i64 L[i].i) ∧ w.cell? ⟨g, o + i * 4 + 2, none⟩ = some (.int .i64 L[i].at_) ∧ w.cell? ⟨g, o + i * 4 + 3, none⟩ = some (.string L[i].body)
theorem ActsB.at_ {w : World} {a : Option Addr} {n cap : Nat} {L : List ActB} (h : ActsB w (.slice a n cap) L) (i : Nat) (x : ActB) (hx : L[i]? = some x) : ∃ g o, a = some ⟨g, o, none⟩ ∧ w.cell? ⟨g, o + i * 4, none⟩ = some (.int .i64 x.what) ∧ w.cell? ⟨g, o + i * 4 + 1, none⟩ = some (.int .i64 x.i) ∧ w.cell? ⟨g, o + i * 4 + 2, none⟩ = some (.int .i64 x.at_) ∧ w.cell? ⟨g, o + i * 4 + 3, none⟩ = some (.string x.body) := by
  obtain ⟨a', cap', e, hc⟩ := h
  cases e
  obtain ⟨hi, rfl⟩ := List.getElem?_eq_some_iff.1 hx
  exact hc i hi
theorem ActsB.len {w : World} {a : Option Addr} {n cap : Nat} {L : List ActB} (h : ActsB w (.slice a n cap) L) : L.length = n := by
  obtain ⟨_, _, e, _⟩ := h
  injection e with _ e _
  exact e.symm
/-- the two lowest bits -/
def low2B (z : Int) : Nat := (z % 4).toNat
theorem and3B (z : Int) : bits .and .i64 z 3 = ((low2B z : Nat) : Int) := by
  have h1 : (BitVec.ofInt 64 z).toNat = (z % (2 ^ 64 : Nat)).toNat := by rw [BitVec.toNat_ofInt]
  have h3 : (BitVec.ofInt 64 (3 : Int)).toNat = 3 := by decide
  show IntKind.i64.wrap ((BitVec.ofInt 64 z &&& BitVec.ofInt 64 (3 : Int)).toNat : Int) = _
  rw [BitVec.toNat_and, h1, h3, show (3 : Nat) = 2 ^ 2 - 1 from rfl, Nat.and_two_pow_sub_one_eq_mod]
  have h4 : (z % (2 ^ 64 : Nat)).toNat % 2 ^ 2 = low2B z := by unfold low2B; omega
  rw [h4]
  have : low2B z < 4 := by unfold low2B; omega
  exact IntWalk.i64_in _ (by omega)
theorem tm6 (xw : Int) : -6 < Int.tmod xw 6 ∧ Int.tmod xw 6 < 6 := by
  have := tmod_bounds xw 6 (by decide)
  simpa using this
def ownOB (v : Value) : List Nat := match v.ownBlock with | some y => [y] | none => []
theorem ownOB_mem {v : Value} {y : Nat} : y ∈ ownOB v ↔ v.ownBlock = some y := by
  unfold ownOB
  cases v.ownBlock with
  | none => simp
  | some z => simp [eq_comm]
/-- a bag that holds L beside a list that holds M; X: the caller's own blocks -/
structure BS (w0 : World) (n0 bb : Nat) (X : List Nat) (L M : List LetS) (mv : Value) (wr : World) : Prop where
  bag : KBag n0 X wr bb L
  row : wr.ownsRow n0 30 4 mv M.length (letsV M)
  rx : ∀ y, mv.ownBlock = some y → y ∈ X
  xl : ∀ y ∈ X, y < wr.heap.size
  tn : w0.grownBy wr none
  n0e : w0.heap.size = n0
section
variable {w0 : World} {n0 bb : Nat} {X : List Nat} {L M : List LetS} {mv : Value} {wr w' : World}
theorem BS.n0l (h : BS w0 n0 bb X L M mv wr) : n0 ≤ wr.heap.size := by have := h.tn.size; have := h.n0e; omega
theorem BS.go (h : BS w0 n0 bb X L M mv wr) (g : wr.grownBy w' none) : BS w0 n0 bb X L M mv w' :=
  ⟨h.bag.go g, own_keepB h.row g (fun _ _ e => by cases e), h.rx, fun y hy => Nat.lt_of_lt_of_le (h.xl y hy) g.size, grownBy_trans h.tn g, h.n0e⟩
theorem BS.box (h : BS w0 n0 bb X L M mv wr) (g : wr.grownBy w' none) (XB : Nat) (h1 : wr.heap.size ≤ XB) (h2 : XB < w'.heap.size) : BS w0 n0 bb (XB :: X) L M mv w' :=
  ⟨h.bag.more g (fun i hi => by rcases List.mem_cons.1 hi with rfl | q; exact .inr h1; exact .inl q), own_keepB h.row g (fun _ _ e => by cases e), fun y e => List.mem_cons_of_mem _ (h.rx y e), fun y hy => by
    rcases List.mem_cons.1 hy with rfl | q
    · exact h2
    · exact Nat.lt_of_lt_of_le (h.xl y q) g.size, grownBy_trans h.tn g, h.n0e⟩
theorem BS.turned {L' : List LetS} (h : BS w0 n0 bb X L M mv wr) (k : KBag n0 X w' bb L') (t : Turn (rest n0 X) wr w') : BS w0 n0 bb X L' M mv w' :=
  ⟨k, own_turn h.row t (fun g e q => q.2 (h.rx g e)), h.rx, fun y hy => Nat.lt_of_lt_of_le (h.xl y hy) t.size, ((Turn.of_grown (S := rest n0 X) h.tn).then t).grown0 (by rw [h.n0e]; exact Nat.le_refl _), h.n0e⟩
theorem BS.next {M' : List LetS} {mv' : Value} {BB : Nat} (h : BS w0 n0 bb X L M mv wr) (g : wr.grownBy w' none) (hb : wr.heap.size ≤ BB) (ho : w'.ownsRow BB 30 4 mv' M'.length (letsV M')) : BS w0 n0 bb (ownOB mv') L M' mv' w' :=
  ⟨h.bag.more g (fun i hi => .inr (by have := (ho.lt i (ownOB_mem.1 hi)).1; omega)), by
    refine ⟨ho.1, ?_⟩
    rcases ho.2 with q | ⟨g', cap, cur, e, hB, r⟩
    · exact .inl q
    · exact .inr ⟨g', cap, cur, e, by have := h.n0l; omega, r⟩, fun y e => ownOB_mem.2 e, fun y hy => (ho.lt y (ownOB_mem.1 hy)).2, grownBy_trans h.tn g, h.n0e⟩
theorem BS.less (h : BS w0 n0 bb X L M mv wr) : BS w0 n0 bb (ownOB mv) L M mv wr :=
  ⟨h.bag.more (World.grownBy.refl _ _) (fun i hi => .inl (h.rx i (ownOB_mem.1 hi))), h.row, fun y e => ownOB_mem.2 e, fun y hy => h.xl y (h.rx y (ownOB_mem.1 hy)), h.tn, h.n0e⟩
theorem BS.form (h : BS w0 n0 bb X L M mv wr) : ∃ a c, mv = .slice a M.length c := by
  rcases h.row.2 with ⟨rfl, h0⟩ | ⟨g, cap, cur, rfl, _⟩
  · exact ⟨none, 0, by rw [h0]⟩
  · exact ⟨_, cap, rfl⟩
end
/-- letters' bodies are short -/
def Short (L : List LetS) : Prop := ∀ x ∈ L, x.b.size ≤ 10
theorem Short.add {L : List LetS} {x : LetS} (h : Short L) (hx : x.b.size ≤ 10) : Short (L ++ [x]) := by
  intro y hy
  rcases List.mem_append.1 hy with q | q
  · exact h y q
  · rw [List.mem_singleton.1 q]; exact hx
theorem Short.erase {L : List LetS} (h : Short L) (p : Nat) : Short (L.eraseIdx p) := fun y hy => h y (List.mem_of_mem_eraseIdx hy)
theorem Short.set {L : List LetS} {x : LetS} (h : Short L) (hx : x.b.size ≤ 10) (p : Nat) : Short (L.set p x) := by
  intro y hy
  rcases List.mem_or_eq_of_mem_set hy with q | q
  · exact h y q
  · rw [q]; exact hx
theorem turnB_size (s : ByteArray) (at_ : Int) (d : Nat) : (turnB s at_ d).size = s.size := by
  unfold turnB
  rw [str_size, List.length_set, Array.length_toList]
  rfl
end Go.Proofs.Ytemgeelgkokpcaa
