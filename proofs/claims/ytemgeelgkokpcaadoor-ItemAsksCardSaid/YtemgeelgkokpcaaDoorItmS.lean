/- A shower in memory; the walks of standsForItself, quote. -/
import Derived.Test.YtemgeelgkokpcaaDoorItmA
import Derived.Test.YtemgeelgkokpcaaDoorBldW
import Derived.Lib.BufferWrite
namespace Go.Proofs.YtemgeelgkokpcaaDoor
open Go.RowKit

/-- an open list: its row, how many are shown -/
structure FrS where
  a : Option Addr
  c : Nat
  l : List Tr
  k : Nat
def FrS.cells (f : FrS) : List Value := [.slice f.a f.l.length f.c, .int .i64 f.k]
def frV (L : List FrS) : List Value := L.flatMap FrS.cells
theorem frV_len : ∀ L : List FrS, (frV L).length = L.length * 2
  | [] => rfl
  | x :: r => by
    have := frV_len r
    have e : frV (x :: r) = x.cells ++ frV r := rfl
    rw [e, List.length_append, this, List.length_cons]
    show 2 + r.length * 2 = _
    omega
theorem frV_append (L M : List FrS) : frV (L ++ M) = frV L ++ frV M := by simp [frV]
theorem frV_one (f : FrS) : frV [f] = f.cells := by simp [frV]
theorem frV_cells (L : List FrS) : ∀ u ∈ frV L, u.oneCell' = true := by
  intro u hu
  obtain ⟨x, _, h⟩ := List.mem_flatMap.1 hu
  simp [FrS.cells] at h
  rcases h with rfl | rfl <;> rfl
theorem houses_shower : Houses 80 1 := ⟨by decide, by kernel_rfl⟩
/-- block sb is a shower: what it has written, which lists are open -/
def ShAt (B sb : Nat) (out : List UInt8) (fr : List FrS) (w : World) : Prop :=
  ∃ ov, BuilderIn 80 [ov] B sb (Lib.byteCells out) w ∧ w.ownsRow B 120 2 ov fr.length (frV fr)
theorem byteCells_add (a b : List UInt8) : Lib.byteCells (a ++ b) = Lib.byteCells a ++ Lib.byteCells b := by simp [Lib.byteCells]
theorem row_others {w w' : World} {B sb n : Nat} {v : Value} {xs : List Value} {T : TypeId} {cs : Array Value} (h : w.ownsRow B 120 2 v n xs) (hs : w.heap[sb]? = some (.cells cs T (0, 0))) (hT : T ≠ 120) (k : Lib.OthersKept 5 (some sb) w w') : w'.ownsRow B 120 2 v n xs := by
  refine ⟨h.1, ?_⟩
  rcases h.2 with q | ⟨g, cap, cur, rfl, hB, hg, r⟩
  · exact .inl q
  · refine .inr ⟨g, cap, cur, rfl, hB, k g _ hg (fun e => ?_) (fun c fz e => ?_), r⟩
    · have e := Option.some.inj e
      subst e
      rw [hg] at hs
      exact hT (by cases hs; rfl)
    · cases e
theorem sh_byte {B sb : Nat} {out : List UInt8} {fr : List FrS} {w : World} (c : UInt8) (C : Int) (hC : (c.toNat : Int) = C) (h : ShAt B sb out fr w) (hl : out.length ≤ 1000000000) :
    Calls Tryd.prog 52 #[.pointer (some ⟨sb, 0, none⟩), .int .u8 C] w fun e w' => e = .returned .nilIface ∧ ShAt B sb (out ++ [c]) fr w' ∧ Below B w w' := by
  subst hC
  obtain ⟨ov, hb, hr⟩ := h
  refine (writeByte_inB _ [ov] houses_shower B sb _ c.toNat w hb (by rw [Lib.byteCells_length]; omega)).mono ?_
  rintro e w' ⟨rfl, hL⟩
  obtain ⟨_, _, _, _, hh, _⟩ := hb
  exact ⟨rfl, ⟨ov, by rw [byteCells_add]; exact hL.at_, row_others hr hh (by decide) hL.others⟩, hL.below⟩
theorem sh_text {B sb : Nat} {out : List UInt8} {fr : List FrS} {w : World} (s : ByteArray) (h : ShAt B sb out fr w) (hl : out.length + s.size ≤ 1000000000) :
    Calls Tryd.prog 49 #[.pointer (some ⟨sb, 0, none⟩), .string s] w fun e w' => e = .returned (.tuple #[.int .i64 s.size, .nilIface]) ∧ ShAt B sb (out ++ s.data.toList) fr w' ∧ Below B w w' := by
  obtain ⟨ov, hb, hr⟩ := h
  refine (writeString_in _ [ov] houses_shower B sb _ s w hb (by rw [Lib.byteCells_length]; omega)).mono ?_
  rintro e w' ⟨rfl, hL⟩
  obtain ⟨_, _, _, _, hh, _⟩ := hb
  exact ⟨rfl, ⟨ov, by rw [byteCells_add]; exact hL.at_, row_others hr hh (by decide) hL.others⟩, hL.below⟩
set_option maxRecDepth 100000 in
set_option maxHeartbeats 800000 in
theorem stands_any (c : UInt8) (w : World) :
    Calls Tryd.prog 61 #[.int .u8 c.toNat] w fun e w' => e = .returned (.bool (plainB c)) ∧ w = w' := by
  unfold plainB
  by_cases h1 : 32 ≤ c.toNat
  · by_cases h2 : c.toNat ≤ 126
    · by_cases h3 : c.toNat = 34
      · rw [decide_eq_true h1, decide_eq_true h2, decide_eq_false (by simpa using h3)]
        have q1 : (32 : Int) ≤ (c.toNat : Int) := by omega
        have q2 : (c.toNat : Int) ≤ 126 := by omega
        have q3 : ((c.toNat : Int) != 34) = false := by rw [h3]; rfl
        clear h1 h2 h3
        go_enter Tryd.func61, Tryd.ntmps61
        go_wp2_with fail
        go_ret
        exact ⟨rfl, rfl⟩
      · have q1 : (32 : Int) ≤ (c.toNat : Int) := by omega
        have q2 : (c.toNat : Int) ≤ 126 := by omega
        have q3 : ((c.toNat : Int) != 34) = true := by simp; omega
        by_cases h4 : c.toNat = 92
        · rw [decide_eq_true h1, decide_eq_true h2, decide_eq_true (show c.toNat ≠ 34 from h3), decide_eq_false (by simpa using h4)]
          have q4 : ((c.toNat : Int) != 92) = false := by rw [h4]; rfl
          clear h1 h2 h3 h4
          go_enter Tryd.func61, Tryd.ntmps61
          go_wp2_with fail
          go_ret
          exact ⟨rfl, rfl⟩
        · rw [decide_eq_true h1, decide_eq_true h2, decide_eq_true (show c.toNat ≠ 34 from h3), decide_eq_true (show c.toNat ≠ 92 from h4)]
          have q4 : ((c.toNat : Int) != 92) = true := by simp; omega
          clear h1 h2 h3 h4
          go_enter Tryd.func61, Tryd.ntmps61
          go_wp2_with fail
          go_ret
          exact ⟨rfl, rfl⟩
    · rw [decide_eq_true h1, decide_eq_false h2]
      have q1 : (32 : Int) ≤ (c.toNat : Int) := by omega
      have q2 : ¬ (c.toNat : Int) ≤ 126 := by omega
      clear h1 h2
      go_enter Tryd.func61, Tryd.ntmps61
      go_wp2_with fail
      go_ret
      exact ⟨rfl, rfl⟩
  · rw [decide_eq_false h1]
    have q1 : ¬ (32 : Int) ≤ (c.toNat : Int) := by omega
    clear h1
    go_enter Tryd.func61, Tryd.ntmps61
    go_wp2_with fail
    go_ret
    exact ⟨rfl, rfl⟩
end Go.Proofs.YtemgeelgkokpcaaDoor
