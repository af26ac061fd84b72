/- The walk of sha.Hex. -/
import Derived.Test.YtpnjnpfahkjhmaaDoorShaCalls
namespace Go.Proofs.YtpnjnpfahkjhmaaDoor
open Go.RowKit

/-- a digit -/
def hexD (n : Nat) : UInt8 := if n < 10 then UInt8.ofNat (48 + n) else UInt8.ofNat (87 + n)
/-- each byte in two digits -/
def hexL (l : List UInt8) : List UInt8 := l.flatMap fun c => [hexD (c.toNat / 16), hexD (c.toNat % 16)]
theorem hexL_length (l : List UInt8) : (hexL l).length = 2 * l.length := by
  induction l with
  | nil => rfl
  | cons c l ih =>
    have : hexL (c :: l) = [hexD (c.toNat / 16), hexD (c.toNat % 16)] ++ hexL l := rfl
    rw [this, List.length_append, ih]
    simp
    omega
theorem hexArr (n : Nat) (h : n < (⟨#[48, 49, 50, 51, 52, 53, 54, 55, 56, 57, 97, 98, 99, 100, 101, 102]⟩ : ByteArray).size) : (⟨#[48, 49, 50, 51, 52, 53, 54, 55, 56, 57, 97, 98, 99, 100, 101, 102]⟩ : ByteArray)[n] = hexD n := by
  have h' : n < 16 := h
  obtain rfl | rfl | rfl | rfl | rfl | rfl | rfl | rfl | rfl | rfl | rfl | rfl | rfl | rfl | rfl | rfl : n = 0 ∨ n = 1 ∨ n = 2 ∨ n = 3 ∨ n = 4 ∨ n = 5 ∨ n = 6 ∨ n = 7 ∨ n = 8 ∨ n = 9 ∨ n = 10 ∨ n = 11 ∨ n = 12 ∨ n = 13 ∨ n = 14 ∨ n = 15 := by omega
  all_goals rfl
theorem hexL_take (s : ByteArray) (k : Nat) (h : k < s.size) : hexL (s.data.toList.take (k + 1)) = hexL (s.data.toList.take k) ++ [hexD (s[k].toNat / 16), hexD (s[k].toNat % 16)] := by
  rw [List.take_succ_eq_append_getElem (by simpa using h)]
  unfold hexL
  rw [List.flatMap_append, List.flatMap_singleton]
  rfl
theorem byteCells_two (l : List UInt8) (a b : UInt8) : Lib.byteCells (l ++ [a, b]) = (Lib.byteCells l ++ [.int .u8 a.toNat]) ++ [.int .u8 b.toNat] := by simp [Lib.byteCells]
theorem hex_low (c : Nat) (h : c < 256) : bits .and .u8 (c : Int) 15 = ((c % 16 : Nat) : Int) := by
  rw [show (15 : Int) = ((15 : Nat) : Int) from rfl, u8_and_nat _ _ h (by omega)]
  congr 1
  exact Nat.and_two_pow_sub_one_eq_mod c 4

set_option maxRecDepth 100000 in
set_option maxHeartbeats 800000 in
theorem hex_any (w : World) (s : ByteArray) (hs : s.size ≤ 1099511627776) :
    Calls Tryd.prog 17 #[.string s] w fun e w' => e = .returned (.string (str (hexL s.data.toList))) ∧ Below w.heap.size w w' := by
  go_enter Tryd.func17, Tryd.ntmps17
  go_wp2_with fail
  go_loopw [7] (fun i wr => ∃ k : Nat, k ≤ s.size ∧ i = .int .i64 k ∧ Hid (BuilderIn 88 [] w.heap.size w.heap.size (Lib.byteCells (hexL (s.data.toList.take k))) wr) ∧ Hid (Below w.heap.size w wr)) (fun i _ => s.size - (intOf i).toNat)
  case atStart => exact ⟨0, Nat.zero_le _, rfl, builder_fresh w, (Below.refl _ _).alloc (Nat.le_refl _) _⟩
  case round =>
    obtain ⟨k, hk, rfl, HB, HW⟩ := hrel
    by_cases hlt : k < s.size
    · have b1 : (0 : Int) ≤ (k : Int) := by omega
      have b2 : (k : Int) < (s.size : Int) := by omega
      have hc := s[k].toNat_lt
      have b3 : (s[k].toNat : Int) / 16 < 16 := by omega
      have b4 : (s[k].toNat : Int) % 16 < 16 := by omega
      have hlow := hex_low s[k].toNat hc
      rw [show ((s[k].toNat % 16 : Nat) : Int) = (s[k].toNat : Int) % 16 from by simp] at hlow
      have b5 : ((s[k].toNat : Int) % 16).toNat = s[k].toNat % 16 := by omega
      have hlen : (hexL (s.data.toList.take k)).length ≤ 2 * k := by rw [hexL_length]; simp; omega
      go_wp2_with fail
      refine (writeByte_in _ [] houses_builder _ _ _ _ _ HB.out (by rw [Lib.byteCells_length]; omega)).mono ?_
      rintro e w1 ⟨rfl, h1, h2, -⟩
      have H1 := Lib.hid h1
      have H2 := Lib.hid h2
      clear h1 h2
      go_wp2_with fail
      refine (writeByte_in _ [] houses_builder _ _ _ _ _ H1.out (by rw [List.length_append, Lib.byteCells_length]; simp; omega)).mono ?_
      rintro e w2 ⟨rfl, h3, h4, -⟩
      have H3 := Lib.hid h3
      have H4 := Lib.hid (HW.out.trans (H2.out.trans h4))
      clear h3 h4
      go_wp2_with fail
      go_roundw
      case rel =>
        refine ⟨k + 1, by omega, by go_num, ?_, H4.out⟩
        show BuilderIn _ _ _ _ _ _
        rw [hexL_take s k hlt, byteCells_two]
        have := H3.out
        rw [hexArr, hexArr] at this
        exact this
      case measure => simp [intOf]; omega
    · have : k = s.size := by omega
      subst this
      have hB := HB.out
      rw [List.take_of_length_le (by simp)] at hB
      have HB2 := Lib.hid hB
      clear hB HB
      go_wp2_with fail
      refine (string_in _ [] _ _ _ _ HB2.out).mono ?_
      rintro e w1 ⟨rfl, h2⟩
      have H2 := Lib.hid (HW.out.trans h2)
      clear h2
      go_wp2_with fail
      go_ret
      exact ⟨rfl, H2.out⟩
end Go.Proofs.YtpnjnpfahkjhmaaDoor
