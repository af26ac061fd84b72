/- The law OctetNone: of no Writer and no Reader each call answers as promised, for every number and every text. -/
import Derived.Test.YtgolffjiepcbpaaOctetS
import Derived.Test.YtgolffjiepcbpaaBase
import Derived.ProofKit
import Derived.OpenShut
import Derived.ShutString
namespace Go.Proofs.Ytgolffjiepcbpaa.octetNone
open Go.RowKit Go.ChangeShapes Go.WideShapes Go.ChangeAt
open Go.ChangeMaps (open_string shut_string)

set_option maxHeartbeats 400000 in
theorem walk (n : Nat) (hn : n ≤ 18446744073709551615) (s : ByteArray) (hs : s.size ≤ maxLen) (w : World) :
    Calls Try.prog 4 #[.int .u64 n, .string s] w fun e w' => e = .returned (.bool true) ∧ Below w.heap.size w w' := by
  have hs' := hs
  unfold maxLen at hs'
  go_enter Try.func4, Try.ntmps4
  go_wp2_with fail
  refine (speaks_true _).mono ?_
  rintro e w1 ⟨rfl, h1⟩
  have B1 := Lib.hid h1
  clear h1
  go_wp2_with fail
  refine (bytes_nil _).mono ?_
  rintro e w' ⟨rfl, rfl⟩
  go_wp2_with fail
  refine (wnum_any n hn 8 _ none none rfl (by rintro x ⟨⟩)).mono ?_
  rintro e w2 ⟨rfl, -, g2⟩
  have B2 : Hid (Below w.heap.size w w2) := B1.out.trans ((below_grownBy g2).mono B1.out.size)
  clear g2 B1
  go_wp2_with fail
  refine (wtext_any s hs _ none none rfl (by rintro x ⟨⟩)).mono ?_
  rintro e w3 ⟨rfl, -, g3⟩
  have B3 : Hid (Below w.heap.size w w3) := B2.out.trans ((below_grownBy g3).mono B2.out.size)
  clear g3 B2
  go_wp2_with fail
  refine (wfixed_any s s.size _ none none rfl (by rintro x ⟨⟩)).mono ?_
  rintro e w4 ⟨rfl, -, g4⟩
  have B4 : Hid (Below w.heap.size w w4) := B3.out.trans ((below_grownBy g4).mono B3.out.size)
  clear g4 B3
  go_wp2_with fail
  refine (rnum_any 8 _ none none rfl (by rintro x ⟨⟩)).mono ?_
  rintro e w5 ⟨rfl, -, g5⟩
  have B5 : Hid (Below w.heap.size w w5) := B4.out.trans ((below_grownBy g5).mono B4.out.size)
  clear g5 B4
  go_wp2_with fail
  refine (rtext_any _ none none rfl (by rintro x ⟨⟩)).mono ?_
  rintro e w6 ⟨rfl, -, g6⟩
  have B6 : Hid (Below w.heap.size w w6) := B5.out.trans ((below_grownBy g6).mono B5.out.size)
  clear g6 B5
  go_wp2_with fail
  refine (rfixed_any 1 _ none none rfl (by rintro x ⟨⟩)).mono ?_
  rintro e w7 ⟨rfl, -, g7⟩
  have B7 : Hid (Below w.heap.size w w7) := B6.out.trans ((below_grownBy g7).mono B6.out.size)
  clear g7 B6
  go_wp2_with fail
  refine (left_any _ none none rfl).mono ?_
  rintro e w8 ⟨rfl, rfl⟩
  go_wp2_with fail
  refine (end_any _ none none rfl).mono ?_
  rintro e w9 ⟨rfl, rfl⟩
  go_wp2
  go_ret
  exact ⟨rfl, B7.out⟩

theorem own : ownKnob Try.prog.godebug = none := by kernel_rfl

set_option maxRecDepth 100000 in
theorem lifted (os : Os) (started : os.Started) (H : Type) (enc : TypeId × Value → H) :
    ReturnsInHanded {} Try.checked os 4 .any (Rows.octetNoneSpec.pre6 enc Try.prog Try.f4 Rows.octetNoneRow.domain false) (Rows.octetNoneSpec.post enc Try.prog Try.f4 false true false false) := by
  refine returnsInHanded_of_change (C := Try.checked) own started (by kernel_rfl) Try.func4
    (ChangeSpec.witness6 (enc := enc) (C := Try.checked) false ⟨#[], #[.int .u64 0, .string ByteArray.empty], []⟩ 8 (by kernel_rfl) (by kernel_rfl) (by kernel_rfl) (by kernel_rfl)) ?_
  intro W base args ds gs before hval0 hW hcnd _
  have hval : ∀ (j : Nat) t v, Try.f4.params[j]? = some t → args[j]? = some v → Value.okWide Try.prog W .any base t v := hval0
  have hW' := hW
  obtain ⟨p, q, hA0, hV, rfl, hfz, hnd⟩ := hW
  have hA : DataW.TrodAll enc Try.prog W 0 (fun _ => true) true Try.f4.params.toList args.toList ds p := hA0
  rw [Try.params4] at hA hval
  obtain ⟨v0, vs0, d0, ds0, p0, q0, hargs, rfl, rfl, h0, r0⟩ := trodAll_cons hA
  obtain ⟨v1, vs1, d1, ds1, p1, q1, rfl, rfl, rfl, h1, r1⟩ := trodAll_cons r0
  obtain ⟨rfl, rfl, rfl⟩ := trodAll_nil r1
  obtain rfl : args = #[v0, v1] := by cases args; simp_all
  obtain ⟨rfl, rfl⟩ := trodVars_none hV
  obtain ⟨a0, rfl, rfl, rfl, w0⟩ := open_int Try.underlying28 (hval 0 28 v0 rfl rfl) h0
  obtain ⟨a1, rfl, rfl, rfl, w1⟩ := open_string Try.underlying9 (hval 1 9 v1 rfl rfl) h1
  clear hA0 hval0
  simp only [List.append_nil] at hW'
  have hb : 0 ≤ a0 ∧ a0 ≤ 18446744073709551615 := by simpa [Lit.wf, IntKind.min, IntKind.max, IntKind.signed, IntKind.bits] using w0
  obtain ⟨n, rfl⟩ := Int.eq_ofNat_of_zero_le hb.1
  refine (walk n (by omega) a1 w1 W).mono fun e W' ⟨he, hg⟩ => ?_
  subst he
  exact ⟨_, rfl, post_of_below (pa := []) (pv := []) hW' (fun _ _ _ => (trodAll_cons_mk (shut_bool Try.underlying4 _) trodAll_mk0)) (fun sp _ => (trodAll_cons_mk (shut_int Try.underlying28 w0) (trodAll_cons_mk (shut_string Try.underlying9 w1) trodAll_mk0))) (fun _ _ => rfl) rfl hg⟩

theorem over : Rows.octetNoneRow.holds Try.pinned (OpenSpec.ofChange Rows.octetNoneSpec) :=
  OpenClaim.holds_of_wide 4 Try.f4 rfl rfl rfl rfl rfl rfl rfl ⟨rfl, rfl, rfl, rfl, rfl⟩ rfl rfl rfl rfl rfl (by kernel_rfl) Try.func4 (by kernel_rfl)
    (of_decide_eq_true (by kernel_rfl)) (by unfold Func.isWrapper; first | (rw [if_pos (by decide +kernel)]; kernel_rfl) | (rw [if_neg (by decide +kernel)]; exact ⟨rfl, rfl⟩))
    (fun os started H enc _ => lifted os started H enc)

/-- ████ THE STATEMENT ████ -/
theorem proved : Rows.OctetNoneSaid :=
  over
#print axioms proved
end Go.Proofs.Ytgolffjiepcbpaa.octetNone
