/- Write. -/
import Derived.Test.YtfomchkmedoenaaSecE
namespace Go.Proofs.Ytfomchkmedoenaa
open Go.RowKit

theorem write_nil (i : Int) (s : ByteArray) (w : World) : Calls Try.prog 15 #[.pointer none, .int .i64 i, .string s] w fun e w' => e = .returned (.int .i64 1) ∧ w = w' := by
  go_enter Try.func15, Try.ntmps15
  go_wp2_with fail
  refine (reaches_nil i w).mono ?_
  rintro e w1 ⟨rfl, rfl⟩
  go_wp2_with fail
  go_ret
  exact ⟨rfl, rfl⟩
theorem write_off (F : Nat → Prop) (b : Nat) (D : DiskS) (i : Int) (s : ByteArray) (w : World) (hm : DiskAt F w b D) (h : D.on = false) : Calls Try.prog 15 #[.pointer (some ⟨b, 0, none⟩), .int .i64 i, .string s] w fun e w' => e = .returned (.int .i64 8) ∧ w = w' := by
  have C := Lib.hid (reaches_at_off F b D i w hm h)
  clear hm h
  go_enter Try.func15, Try.ntmps15
  go_wp2_with fail
  refine C.out.mono ?_
  rintro e w1 ⟨rfl, rfl⟩
  go_wp2_with fail
  go_ret
  exact ⟨rfl, rfl⟩
theorem write_out (F : Nat → Prop) (b : Nat) (D : DiskS) (i : Int) (s : ByteArray) (w : World) (hm : DiskAt F w b D) (h : D.on = true) (hi : i < 0 ∨ (D.last.length : Int) ≤ i) : Calls Try.prog 15 #[.pointer (some ⟨b, 0, none⟩), .int .i64 i, .string s] w fun e w' => e = .returned (.int .i64 10) ∧ w = w' := by
  have C := Lib.hid (reaches_at_out F b D i w hm h hi)
  clear hm h hi
  go_enter Try.func15, Try.ntmps15
  go_wp2_with fail
  refine C.out.mono ?_
  rintro e w1 ⟨rfl, rfl⟩
  go_wp2_with fail
  go_ret
  exact ⟨rfl, rfl⟩
theorem write_long (F : Nat → Prop) (b : Nat) (D : DiskS) (i : Nat) (s : ByteArray) (w : World) (hm : DiskAt F w b D) (h : D.on = true) (hi : i < D.last.length) (hs : 64 < s.size) : Calls Try.prog 15 #[.pointer (some ⟨b, 0, none⟩), .int .i64 i, .string s] w fun e w' => e = .returned (.int .i64 2) ∧ w = w' := by
  have C := Lib.hid (reaches_at_ok F b D i w hm h hi)
  clear hm h hi
  go_enter Try.func15, Try.ntmps15
  go_wp2_with fail
  refine C.out.mono ?_
  rintro e w1 ⟨rfl, rfl⟩
  go_wp2_with fail
  go_ret
  exact ⟨rfl, rfl⟩
theorem write_power (F : Nat → Prop) (b : Nat) (D : DiskS) (i : Nat) (s : ByteArray) (w : World) (hm : DiskAt F w b D) (h : D.on = true) (hi : i < D.last.length) (hs : s.size ≤ 64) (hf : D.fuse = 0) (hkl : D.keep.length ≤ 9223372036854775807) (hwl : D.wait.length ≤ 1000000000000) :
    Calls Try.prog 15 #[.pointer (some ⟨b, 0, none⟩), .int .i64 i, .string s] w fun e w' => e = .returned (.int .i64 8) ∧ DiskAt F w' b (cutD D D.keep) ∧ Turn F w w' := by
  have C := Lib.hid (reaches_at_ok F b D i w hm h hi)
  have C2 := Lib.hid (burns_cut F b D w hm (by omega) hf hkl hwl)
  clear hm h hi hf
  go_enter Try.func15, Try.ntmps15
  go_wp2_with fail
  refine C.out.mono ?_
  rintro e w1 ⟨rfl, rfl⟩
  go_wp2_with fail
  refine C2.out.mono ?_
  rintro e w1 ⟨rfl, hd, t⟩
  have HD := Lib.hid hd
  have T := Lib.hid t
  clear hd t
  go_wp2_with fail
  go_ret
  exact ⟨rfl, HD.out, T.out⟩
end Go.Proofs.Ytfomchkmedoenaa
