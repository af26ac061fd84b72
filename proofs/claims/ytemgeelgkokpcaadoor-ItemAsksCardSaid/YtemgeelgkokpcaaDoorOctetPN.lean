/- The walk of a Writer's Num. -/
import Derived.Test.YtemgeelgkokpcaaDoorOctetP
namespace Go.Proofs.YtemgeelgkokpcaaDoor
open Go.RowKit

set_option maxHeartbeats 400000 in
theorem wnum_any (n : Nat) (hn : n ≤ 18446744073709551615) (k : Int) (w : World) (p : Option Addr) (st : Option WSt) (h : WsAt w p st) (hs : WRoom st 8) :
    Calls Tryd.prog 43 #[.pointer p, .int .u64 n, .int .i64 k] w fun e w' => e = .returned (.pointer p) ∧ WsAt w' p (st.map (·.num n k)) ∧ w.grownBy w' (prow p) := by
  have H := Lib.hid h
  have HR := Lib.hid hs
  clear h hs
  by_cases hk : 1 ≤ k ∧ k ≤ 8
  · obtain ⟨k, rfl⟩ := Int.eq_ofNat_of_zero_le (show 0 ≤ k by omega)
    have hk1 : 1 ≤ k := by omega
    have hk2 : k ≤ 8 := by omega
    have hb : (decide (1 ≤ (k : Int)) && decide ((k : Int) ≤ 8)) = true := by simp; omega
    clear hk
    by_cases hf : n < 256 ^ k
    · have e : (fun st : WSt => st.num n k) = (fun st => st.put (str (be n k))) := by funext st; simp [WSt.num, hf, hk2]; intro; omega
      rw [e]
      clear e
      have hf' := (num_fits_int n k hk1).2 hf
      clear hf
      go_enter Tryd.func43, Tryd.ntmps43
      go_wp2_with fail
      refine (numMayBe_any k _).mono ?_
      rintro e w' ⟨rfl, rfl⟩
      go_wp2_with fail
      refine (number_any n k hn hk2 _).mono ?_
      rintro e w1 ⟨rfl, hg⟩
      have HB := Lib.hid (grownBy_below hg)
      clear hg
      go_wp2_with fail
      refine (put_ws (str (be n k)) _ p st (H.out.grown HB.out) ?_).mono ?_
      · intro x hx
        have := HR.out x hx
        rw [str_size, be_length]
        omega
      rintro e w2 ⟨rfl, h1, h2⟩
      have H1 := Lib.hid h1
      have H2 := Lib.hid h2
      clear h1 h2
      go_wp2
      go_ret
      exact ⟨rfl, H1.out, grownBy_trans (grownBy_any HB.out _) H2.out⟩
    · have e : (fun st : WSt => st.num n k) = (fun st => st.fail 10) := by funext st; simp [WSt.num, hf]
      rw [e]
      clear e
      have hf' : 255 < (n : Int) / 2 ^ (8 * (k - 1)) := by
        have := num_fits_int n k hk1
        omega
      clear hf
      go_enter Tryd.func43, Tryd.ntmps43
      go_wp2_with fail
      refine (numMayBe_any k _).mono ?_
      rintro e w' ⟨rfl, rfl⟩
      go_wp2_with fail
      refine (fail_ws 10 _ p st H.out).mono ?_
      rintro e w' ⟨rfl, h1, h2⟩
      have H1 := Lib.hid h1
      have H2 := Lib.hid h2
      clear h1 h2
      go_wp2
      go_ret
      exact ⟨rfl, H1.out, H2.out⟩
  · have e : (fun st : WSt => st.num n k) = (fun st => st.fail 10) := by
      funext st
      unfold WSt.num
      rw [if_neg (by intro h; exact hk ⟨h.1, h.2.1⟩)]
    rw [e]
    clear e
    have hb : (decide (1 ≤ (k : Int)) && decide ((k : Int) ≤ 8)) = false := by
      rw [Bool.and_eq_false_iff, decide_eq_false_iff_not, decide_eq_false_iff_not]
      omega
    clear hk
    go_enter Tryd.func43, Tryd.ntmps43
    go_wp2_with fail
    refine (numMayBe_any k _).mono ?_
    rintro e w' ⟨rfl, rfl⟩
    go_wp2_with fail
    refine (fail_ws 10 _ p st H.out).mono ?_
    rintro e w' ⟨rfl, h1, h2⟩
    have H1 := Lib.hid h1
    have H2 := Lib.hid h2
    clear h1 h2
    go_wp2
    go_ret
    exact ⟨rfl, H1.out, H2.out⟩
end Go.Proofs.YtemgeelgkokpcaaDoor
