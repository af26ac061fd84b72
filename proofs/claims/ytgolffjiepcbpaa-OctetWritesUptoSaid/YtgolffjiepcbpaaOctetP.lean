/- The walks of a Writer's put and fail, Num, Text, Fixed. -/
import Derived.Test.YtgolffjiepcbpaaOctetM
import Derived.Test.YtgolffjiepcbpaaOctetW
namespace Go.Proofs.Ytgolffjiepcbpaa
open Go.RowKit

set_option maxHeartbeats 400000 in
theorem put_nil (s : ByteArray) (w : World) :
    Calls Try.prog 19 #[.pointer none, .string s] w fun e w' => e = .returned (.pointer none) ∧ w = w' := by
  go_enter Try.func19, Try.ntmps19
  go_wp2
  go_ret
  exact ⟨rfl, rfl⟩
set_option maxHeartbeats 400000 in
theorem fail_nil (x : Int) (w : World) :
    Calls Try.prog 18 #[.pointer none, .int .i64 x] w fun e w' => e = .returned (.pointer none) ∧ w = w' := by
  go_enter Try.func18, Try.ntmps18
  go_wp2
  go_ret
  exact ⟨rfl, rfl⟩

set_option maxHeartbeats 400000 in
theorem put_err (s : ByteArray) (w : World) (b : Nat) (st : WSt) (h : WrAt w b st) (he : st.err ≠ 0) :
    Calls Try.prog 19 #[.pointer (some ⟨b, 0, none⟩), .string s] w fun e w' => e = .returned (.pointer (some ⟨b, 0, none⟩)) ∧ w = w' := by
  obtain ⟨last, hl, hc⟩ := h
  have c2 := cell_of hl 2
  have hb : (st.err == 0) = false := by simpa using he
  clear hl hc
  simp at c2
  go_enter Try.func19, Try.ntmps19
  go_wp2
  go_ret
  exact ⟨rfl, rfl⟩
set_option maxHeartbeats 400000 in
theorem fail_err (x : Int) (w : World) (b : Nat) (st : WSt) (h : WrAt w b st) (he : st.err ≠ 0) :
    Calls Try.prog 18 #[.pointer (some ⟨b, 0, none⟩), .int .i64 x] w fun e w' => e = .returned (.pointer (some ⟨b, 0, none⟩)) ∧ w = w' := by
  obtain ⟨last, hl, hc⟩ := h
  have c2 := cell_of hl 2
  have hb : (st.err == 0) = false := by simpa using he
  clear hl hc
  simp at c2
  go_enter Try.func18, Try.ntmps18
  go_wp2
  go_ret
  exact ⟨rfl, rfl⟩

set_option maxHeartbeats 400000 in
theorem put_ok (s : ByteArray) (w : World) (b : Nat) (ts : List ByteArray) (h : WrAt w b ⟨ts, 0⟩) (hs : s.size + total ts ≤ 9223372036854775807) :
    Calls Try.prog 19 #[.pointer (some ⟨b, 0, none⟩), .string s] w fun e w' => e = .returned (.pointer (some ⟨b, 0, none⟩)) ∧ WrAt w' b ⟨s :: ts, 0⟩ ∧ w.grownBy w' (some b) := by
  have hlt := h.lt
  obtain ⟨last, hl, hc⟩ := h
  obtain ⟨p, rfl⟩ := hc.ptr
  have c0 := cell_of hl 0
  have c1 := cell_of hl 1
  have c2 := cell_of hl 2
  have f0 := free_of hl 0
  have f1 := free_of hl 1
  have f2 := free_of hl 2
  simp at c0 c1 c2
  have HL := Lib.hid hl
  have HC := Lib.hid hc
  clear hl hc
  go_enter Try.func19, Try.ntmps19
  go_wp2
  go_ret
  exact ⟨rfl, WrAt.pushed hlt HL.out HC.out⟩

set_option maxHeartbeats 400000 in
theorem fail_ok (x : Int) (w : World) (b : Nat) (ts : List ByteArray) (h : WrAt w b ⟨ts, 0⟩) :
    Calls Try.prog 18 #[.pointer (some ⟨b, 0, none⟩), .int .i64 x] w fun e w' => e = .returned (.pointer (some ⟨b, 0, none⟩)) ∧ WrAt w' b ⟨ts, x⟩ ∧ w.grownBy w' (some b) := by
  have hlt := h.lt
  obtain ⟨last, hl, hc⟩ := h
  have c2 := cell_of hl 2
  have f2 := free_of hl 2
  simp at c2
  have HL := Lib.hid hl
  have HC := Lib.hid hc
  clear hl hc
  go_enter Try.func18, Try.ntmps18
  go_wp2
  go_ret
  have hg : w.grownBy (w.setCell ⟨b, 2, none⟩ (.int .i64 x)) (some b) := grownBy_setCell (World.grownBy.refl _ _) _ _
  refine ⟨rfl, ⟨last, ?_, HC.out.kept hg ?_⟩, hg⟩
  · rw [heap_setCell HL.out 2 _]
    simp
  · intro r e v t hr
    cases e
    rw [HL.out] at hr
    simp at hr

/-- put, at every state -/
theorem put_any (s : ByteArray) (w : World) (b : Nat) (st : WSt) (h : WrAt w b st) (hs : s.size + total st.ts ≤ 9223372036854775807) :
    Calls Try.prog 19 #[.pointer (some ⟨b, 0, none⟩), .string s] w fun e w' => e = .returned (.pointer (some ⟨b, 0, none⟩)) ∧ WrAt w' b (st.put s) ∧ w.grownBy w' (some b) := by
  obtain ⟨ts, err⟩ := st
  by_cases he : err = 0
  · subst he
    exact put_ok s w b ts h hs
  · refine (put_err s w b ⟨ts, err⟩ h he).mono ?_
    rintro e w' ⟨rfl, rfl⟩
    exact ⟨rfl, by simpa [WSt.put, he] using h, World.grownBy.refl _ _⟩
theorem fail_any (x : Int) (w : World) (b : Nat) (st : WSt) (h : WrAt w b st) :
    Calls Try.prog 18 #[.pointer (some ⟨b, 0, none⟩), .int .i64 x] w fun e w' => e = .returned (.pointer (some ⟨b, 0, none⟩)) ∧ WrAt w' b (st.fail x) ∧ w.grownBy w' (some b) := by
  obtain ⟨ts, err⟩ := st
  by_cases he : err = 0
  · subst he
    exact fail_ok x w b ts h
  · refine (fail_err x w b ⟨ts, err⟩ h he).mono ?_
    rintro e w' ⟨rfl, rfl⟩
    exact ⟨rfl, by simpa [WSt.fail, he] using h, World.grownBy.refl _ _⟩

theorem put_ws (s : ByteArray) (w : World) (p : Option Addr) (st : Option WSt) (h : WsAt w p st) (hs : WRoom st s.size) :
    Calls Try.prog 19 #[.pointer p, .string s] w fun e w' => e = .returned (.pointer p) ∧ WsAt w' p (st.map (·.put s)) ∧ w.grownBy w' (prow p) := by
  cases st with
  | none =>
    obtain rfl := h
    refine (put_nil s w).mono ?_
    rintro e w' ⟨rfl, rfl⟩
    exact ⟨rfl, rfl, World.grownBy.refl _ _⟩
  | some st =>
    obtain ⟨b, rfl, hw⟩ := h
    refine (put_any s w b st hw (hs st rfl)).mono ?_
    rintro e w' ⟨rfl, h1, h2⟩
    exact ⟨rfl, ⟨b, rfl, h1⟩, h2⟩
theorem fail_ws (x : Int) (w : World) (p : Option Addr) (st : Option WSt) (h : WsAt w p st) :
    Calls Try.prog 18 #[.pointer p, .int .i64 x] w fun e w' => e = .returned (.pointer p) ∧ WsAt w' p (st.map (·.fail x)) ∧ w.grownBy w' (prow p) := by
  cases st with
  | none =>
    obtain rfl := h
    refine (fail_nil x w).mono ?_
    rintro e w' ⟨rfl, rfl⟩
    exact ⟨rfl, rfl, World.grownBy.refl _ _⟩
  | some st =>
    obtain ⟨b, rfl, hw⟩ := h
    refine (fail_any x w b st hw).mono ?_
    rintro e w' ⟨rfl, h1, h2⟩
    exact ⟨rfl, ⟨b, rfl, h1⟩, h2⟩

set_option maxHeartbeats 400000 in
theorem wfixed_any (s : ByteArray) (k : Int) (w : World) (p : Option Addr) (st : Option WSt) (h : WsAt w p st) (hs : WRoom st s.size) :
    Calls Try.prog 9 #[.pointer p, .string s, .int .i64 k] w fun e w' => e = .returned (.pointer p) ∧ WsAt w' p (st.map (·.fixed s k)) ∧ w.grownBy w' (prow p) := by
  have H := Lib.hid h
  clear h
  by_cases hk : (s.size : Int) = k
  · have e : (fun st : WSt => st.fixed s k) = (fun st => st.put s) := by funext st; simp [WSt.fixed, hk]
    rw [e]
    clear e
    subst hk
    go_enter Try.func9, Try.ntmps9
    go_wp2_with fail
    refine (put_ws s _ p st H.out hs).mono ?_
    rintro e w' ⟨rfl, h1, h2⟩
    have H1 := Lib.hid h1
    have H2 := Lib.hid h2
    clear h1 h2
    go_wp2
    go_ret
    exact ⟨rfl, H1.out, H2.out⟩
  · have e : (fun st : WSt => st.fixed s k) = (fun st => st.fail 10) := by funext st; simp [WSt.fixed, hk]
    rw [e]
    clear e
    go_enter Try.func9, Try.ntmps9
    go_wp2_with fail
    refine (fail_ws 10 _ p st H.out).mono ?_
    rintro e w' ⟨rfl, h1, h2⟩
    have H1 := Lib.hid h1
    have H2 := Lib.hid h2
    clear h1 h2
    go_wp2
    go_ret
    exact ⟨rfl, H1.out, H2.out⟩

set_option maxHeartbeats 400000 in
theorem wtext_any (s : ByteArray) (hm : s.size ≤ maxLen) (w : World) (p : Option Addr) (st : Option WSt) (h : WsAt w p st) (hs : WRoom st (2 + s.size)) :
    Calls Try.prog 8 #[.pointer p, .string s] w fun e w' => e = .returned (.pointer p) ∧ WsAt w' p (st.map (·.text s)) ∧ w.grownBy w' (prow p) := by
  have H := Lib.hid h
  have HR := Lib.hid hs
  clear h hs
  unfold maxLen at hm
  by_cases hk : s.size ≤ 4096
  · have e : (fun st : WSt => st.text s) = (fun st => (st.put (str (be s.size 2))).put s) := by funext st; simp [WSt.text, hk]
    rw [e]
    clear e
    go_enter Try.func8, Try.ntmps8
    go_wp2_with fail
    refine (number_any s.size 2 (by omega) (by omega) _).mono ?_
    rintro e w1 ⟨rfl, hb⟩
    have HB := Lib.hid (grownBy_below hb)
    clear hb
    go_wp2_with fail
    refine (put_ws (str (be s.size 2)) _ p st (H.out.grown HB.out) ?_).mono ?_
    · intro x hx
      have := HR.out x hx
      rw [str_size, be_length]
      omega
    rintro e w2 ⟨rfl, h1, h2⟩
    have H1 := Lib.hid h1
    have H2 := Lib.hid h2
    clear h1 h2
    go_wp2_with fail
    refine (put_ws s _ p _ H1.out ?_).mono ?_
    · intro x hx
      cases st with
      | none => cases hx
      | some y =>
        cases hx
        have := HR.out y rfl
        have h3 := total_put y (str (be s.size 2))
        rw [str_size, be_length] at h3
        show s.size + total (y.put (str (be s.size 2))).ts ≤ _
        omega
    rintro e w3 ⟨rfl, h3, h4⟩
    have H3 := Lib.hid h3
    have H4 := Lib.hid h4
    clear h3 h4
    go_wp2
    go_ret
    refine ⟨rfl, ?_, grownBy_trans (grownBy_any HB.out _) (grownBy_trans H2.out H4.out)⟩
    have := H3.out
    rw [Option.map_map] at this
    exact this
  · have e : (fun st : WSt => st.text s) = (fun st => st.fail 2) := by funext st; simp [WSt.text, hk]
    rw [e]
    clear e
    go_enter Try.func8, Try.ntmps8
    go_wp2_with fail
    refine (fail_ws 2 _ p st H.out).mono ?_
    rintro e w' ⟨rfl, h1, h2⟩
    have H1 := Lib.hid h1
    have H2 := Lib.hid h2
    clear h1 h2
    go_wp2
    go_ret
    exact ⟨rfl, H1.out, H2.out⟩

set_option maxHeartbeats 400000 in
theorem wnum_any (n : Nat) (hn : n ≤ 18446744073709551615) (k : Int) (w : World) (p : Option Addr) (st : Option WSt) (h : WsAt w p st) (hs : WRoom st 8) :
    Calls Try.prog 6 #[.pointer p, .int .u64 n, .int .i64 k] w fun e w' => e = .returned (.pointer p) ∧ WsAt w' p (st.map (·.num n k)) ∧ w.grownBy w' (prow p) := by
  have H := Lib.hid h
  have HR := Lib.hid hs
  clear h hs
  by_cases hk : 1 ≤ k ∧ k ≤ 8
  · obtain ⟨k, rfl⟩ := Int.eq_ofNat_of_zero_le (show 0 ≤ k by omega)
    have hk1 : 1 ≤ k := by omega
    have hk2 : k ≤ 8 := by omega
    have hb : (decide (1 ≤ (k : Int)) && decide ((k : Int) ≤ 8)) = true := by simp; omega
    clear hk
    by_cases hf : n < 256 ^ k
    · have e : (fun st : WSt => st.num n k) = (fun st => st.put (str (be n k))) := by funext st; simp [WSt.num, hf, hk2]; intro; omega
      rw [e]
      clear e
      have hf' := (num_fits_int n k hk1).2 hf
      clear hf
      go_enter Try.func6, Try.ntmps6
      go_wp2_with fail
      refine (numMayBe_any k _).mono ?_
      rintro e w' ⟨rfl, rfl⟩
      go_wp2_with fail
      refine (number_any n k hn hk2 _).mono ?_
      rintro e w1 ⟨rfl, hg⟩
      have HB := Lib.hid (grownBy_below hg)
      clear hg
      go_wp2_with fail
      refine (put_ws (str (be n k)) _ p st (H.out.grown HB.out) ?_).mono ?_
      · intro x hx
        have := HR.out x hx
        rw [str_size, be_length]
        omega
      rintro e w2 ⟨rfl, h1, h2⟩
      have H1 := Lib.hid h1
      have H2 := Lib.hid h2
      clear h1 h2
      go_wp2
      go_ret
      exact ⟨rfl, H1.out, grownBy_trans (grownBy_any HB.out _) H2.out⟩
    · have e : (fun st : WSt => st.num n k) = (fun st => st.fail 10) := by funext st; simp [WSt.num, hf]
      rw [e]
      clear e
      have hf' : 255 < (n : Int) / 2 ^ (8 * (k - 1)) := by
        have := num_fits_int n k hk1
        omega
      clear hf
      go_enter Try.func6, Try.ntmps6
      go_wp2_with fail
      refine (numMayBe_any k _).mono ?_
      rintro e w' ⟨rfl, rfl⟩
      go_wp2_with fail
      refine (fail_ws 10 _ p st H.out).mono ?_
      rintro e w' ⟨rfl, h1, h2⟩
      have H1 := Lib.hid h1
      have H2 := Lib.hid h2
      clear h1 h2
      go_wp2
      go_ret
      exact ⟨rfl, H1.out, H2.out⟩
  · have e : (fun st : WSt => st.num n k) = (fun st => st.fail 10) := by
      funext st
      unfold WSt.num
      rw [if_neg (by intro h; exact hk ⟨h.1, h.2.1⟩)]
    rw [e]
    clear e
    have hb : (decide (1 ≤ (k : Int)) && decide ((k : Int) ≤ 8)) = false := by
      rw [Bool.and_eq_false_iff, decide_eq_false_iff_not, decide_eq_false_iff_not]
      omega
    clear hk
    go_enter Try.func6, Try.ntmps6
    go_wp2_with fail
    refine (numMayBe_any k _).mono ?_
    rintro e w' ⟨rfl, rfl⟩
    go_wp2_with fail
    refine (fail_ws 10 _ p st H.out).mono ?_
    rintro e w' ⟨rfl, h1, h2⟩
    have H1 := Lib.hid h1
    have H2 := Lib.hid h2
    clear h1 h2
    go_wp2
    go_ret
    exact ⟨rfl, H1.out, H2.out⟩
end Go.Proofs.Ytgolffjiepcbpaa
