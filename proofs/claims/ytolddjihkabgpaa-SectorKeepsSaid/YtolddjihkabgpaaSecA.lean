/- The walks of a disk's small methods, and of the document's Full. -/
import Derived.Test.YtolddjihkabgpaaSecMem
import Derived.IntWalk
import Derived.Handy
namespace Go.Proofs.Ytolddjihkabgpaa
open Go.RowKit

def fullT (s : ByteArray) : ByteArray := str (fullL s.data.toList)
theorem fullT_size (s : ByteArray) (h : s.size ≤ 64) : (fullT s).size = 64 := by
  show (fullL s.data.toList).length = 64
  exact fullL_length _ (by simpa using h)
theorem full_end {s t : ByteArray} {k : Nat} (h : t.data.toList = s.data.toList ++ zeros k) (hk : k = 64 - s.size) : Ending.returned (.string t) = .returned (.string (fullT s)) := by
  have e : t = fullT s := by
    apply ByteArray.ext
    apply Array.toList_inj.1
    rw [h, hk]
    rfl
  rw [e]
set_option maxHeartbeats 400000 in
theorem full_any (s : ByteArray) (hs : s.size ≤ 1000000000000) (w : World) :
    Calls Try.prog 8 #[.string s] w fun e w' => e = .returned (.string (fullT s)) ∧ w = w' := by
  go_enter Try.func8, Try.ntmps8
  go_wp2_with fail
  go_loop [0] (fun tv => ∃ (k : Nat) (t : ByteArray), tv = .string t ∧ t.size = s.size + k ∧ k ≤ 64 - s.size ∧ Hid (t.data.toList = s.data.toList ++ zeros k)) (fun tv => match tv with | .string t => 64 - t.size | _ => 0)
  case atStart => exact ⟨0, s, rfl, rfl, Nat.zero_le _, by show _ = _; simp [zeros]⟩
  case round =>
    obtain ⟨k, t, rfl, hz, hk, HT⟩ := hrel
    have hz2 : t.size ≤ 1000000000064 := by omega
    have HZ := Lib.hid hz
    by_cases hlt : t.size < 64
    · have hk2 : k + 1 ≤ 64 - s.size := by omega
      clear hz
      have e1 : (⟨#[0]⟩ : ByteArray).size = 1 := rfl
      have hb : t.size + (⟨#[0]⟩ : ByteArray).size ≤ 9223372036854775807 := by rw [e1]; omega
      have e2 : (t ++ (⟨#[0]⟩ : ByteArray)).size = t.size + 1 := by rw [ByteArray.size_append]; rfl
      have E2 := Lib.hid e2
      clear e1 e2
      go_wp2_with fail
      go_round
      case rel =>
        refine ⟨k + 1, _, rfl, by rw [E2.out, HZ.out]; omega, hk2, ?_⟩
        show _ = _
        rw [ByteArray.data_append, Array.toList_append, HT.out]
        simp [zeros, List.replicate_succ']
      case measure => simp only [E2.out]; omega
    · have hk2 : k = 64 - s.size := by omega
      clear hz
      have hge : 64 ≤ t.size := by omega
      go_wp2_with fail
      go_ret
      exact ⟨full_end HT.out hk2, rfl⟩

/-! ### nil -/
theorem works_nil (w : World) : Calls Try.prog 22 #[.pointer none] w fun e w' => e = .returned (.int .i64 1) ∧ w = w' := by
  go_enter Try.func22, Try.ntmps22
  go_wp2_with fail
  go_ret
  exact ⟨rfl, rfl⟩
theorem count_nil (w : World) : Calls Try.prog 19 #[.pointer none] w fun e w' => e = .returned (.int .i64 0) ∧ w = w' := by
  go_enter Try.func19, Try.ntmps19
  go_wp2_with fail
  go_ret
  exact ⟨rfl, rfl⟩
/-! ### a disk's head, by its cells -/
theorem works_on (b : Nat) (w : World) (h : w.cell? ⟨b, 2, none⟩ = some (.bool true)) : Calls Try.prog 22 #[.pointer (some ⟨b, 0, none⟩)] w fun e w' => e = .returned (.int .i64 0) ∧ w = w' := by
  go_enter Try.func22, Try.ntmps22
  go_wp2_with fail
  go_ret
  exact ⟨rfl, rfl⟩
theorem works_off (b : Nat) (w : World) (h : w.cell? ⟨b, 2, none⟩ = some (.bool false)) : Calls Try.prog 22 #[.pointer (some ⟨b, 0, none⟩)] w fun e w' => e = .returned (.int .i64 8) ∧ w = w' := by
  go_enter Try.func22, Try.ntmps22
  go_wp2_with fail
  go_ret
  exact ⟨rfl, rfl⟩
theorem count_cell (b : Nat) (a : Option Addr) (n c : Nat) (w : World) (h : w.cell? ⟨b, 0, none⟩ = some (.slice a n c)) : Calls Try.prog 19 #[.pointer (some ⟨b, 0, none⟩)] w fun e w' => e = .returned (.int .i64 n) ∧ w = w' := by
  go_enter Try.func19, Try.ntmps19
  go_wp2_with fail
  go_ret
  exact ⟨rfl, rfl⟩
theorem reaches_nil (i : Int) (w : World) : Calls Try.prog 20 #[.pointer none, .int .i64 i] w fun e w' => e = .returned (.int .i64 1) ∧ w = w' := by
  go_enter Try.func20, Try.ntmps20
  go_wp2_with fail
  refine (works_nil w).mono ?_
  rintro e w1 ⟨rfl, rfl⟩
  go_wp2_with fail
  go_ret
  exact ⟨rfl, rfl⟩
theorem reaches_off (b : Nat) (i : Int) (w : World) (h : w.cell? ⟨b, 2, none⟩ = some (.bool false)) : Calls Try.prog 20 #[.pointer (some ⟨b, 0, none⟩), .int .i64 i] w fun e w' => e = .returned (.int .i64 8) ∧ w = w' := by
  go_enter Try.func20, Try.ntmps20
  go_wp2_with fail
  refine (works_off b w h).mono ?_
  rintro e w1 ⟨rfl, rfl⟩
  go_wp2_with fail
  go_ret
  exact ⟨rfl, rfl⟩
theorem reaches_out (b : Nat) (i : Int) (a : Option Addr) (n c : Nat) (w : World) (h : w.cell? ⟨b, 2, none⟩ = some (.bool true)) (hl : w.cell? ⟨b, 0, none⟩ = some (.slice a n c)) (hi : i < 0 ∨ (n : Int) ≤ i) : Calls Try.prog 20 #[.pointer (some ⟨b, 0, none⟩), .int .i64 i] w fun e w' => e = .returned (.int .i64 10) ∧ w = w' := by
  by_cases h0 : i < 0
  · clear hi
    go_enter Try.func20, Try.ntmps20
    go_wp2_with fail
    refine (works_on b w h).mono ?_
    rintro e w1 ⟨rfl, rfl⟩
    go_wp2_with fail
    go_ret
    exact ⟨rfl, rfl⟩
  · have h1 : 0 ≤ i := by omega
    have h2 : (n : Int) ≤ i := by omega
    clear hi
    go_enter Try.func20, Try.ntmps20
    go_wp2_with fail
    refine (works_on b w h).mono ?_
    rintro e w1 ⟨rfl, rfl⟩
    go_wp2_with fail
    go_ret
    exact ⟨rfl, rfl⟩
theorem reaches_ok (b i : Nat) (a : Option Addr) (n c : Nat) (w : World) (h : w.cell? ⟨b, 2, none⟩ = some (.bool true)) (hl : w.cell? ⟨b, 0, none⟩ = some (.slice a n c)) (hi : i < n) : Calls Try.prog 20 #[.pointer (some ⟨b, 0, none⟩), .int .i64 i] w fun e w' => e = .returned (.int .i64 0) ∧ w = w' := by
  have h2 : (i : Int) < (n : Int) := by omega
  go_enter Try.func20, Try.ntmps20
  go_wp2_with fail
  refine (works_on b w h).mono ?_
  rintro e w1 ⟨rfl, rfl⟩
  go_wp2_with fail
  go_ret
  exact ⟨rfl, rfl⟩
end Go.Proofs.Ytolddjihkabgpaa
