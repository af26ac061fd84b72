/- The walk of a Writer's Text. -/
import Derived.Test.YtemgeelgkokpcaaDoorOctetP
namespace Go.Proofs.YtemgeelgkokpcaaDoor
open Go.RowKit

set_option maxHeartbeats 400000 in
theorem wtext_any (s : ByteArray) (hm : s.size ≤ maxLen) (w : World) (p : Option Addr) (st : Option WSt) (h : WsAt w p st) (hs : WRoom st (2 + s.size)) :
    Calls Tryd.prog 44 #[.pointer p, .string s] w fun e w' => e = .returned (.pointer p) ∧ WsAt w' p (st.map (·.text s)) ∧ w.grownBy w' (prow p) := by
  have H := Lib.hid h
  have HR := Lib.hid hs
  clear h hs
  unfold maxLen at hm
  by_cases hk : s.size ≤ 4096
  · have e : (fun st : WSt => st.text s) = (fun st => (st.put (str (be s.size 2))).put s) := by funext st; simp [WSt.text, hk]
    rw [e]
    clear e
    go_enter Tryd.func44, Tryd.ntmps44
    go_wp2_with fail
    refine (number_any s.size 2 (by omega) (by omega) _).mono ?_
    rintro e w1 ⟨rfl, hb⟩
    have HB := Lib.hid (grownBy_below hb)
    clear hb
    go_wp2_with fail
    refine (put_ws (str (be s.size 2)) _ p st (H.out.grown HB.out) ?_).mono ?_
    · intro x hx
      have := HR.out x hx
      rw [str_size, be_length]
      omega
    rintro e w2 ⟨rfl, h1, h2⟩
    have H1 := Lib.hid h1
    have H2 := Lib.hid h2
    clear h1 h2
    go_wp2_with fail
    refine (put_ws s _ p _ H1.out ?_).mono ?_
    · intro x hx
      cases st with
      | none => cases hx
      | some y =>
        cases hx
        have := HR.out y rfl
        have h3 := total_put y (str (be s.size 2))
        rw [str_size, be_length] at h3
        show s.size + total (y.put (str (be s.size 2))).ts ≤ _
        omega
    rintro e w3 ⟨rfl, h3, h4⟩
    have H3 := Lib.hid h3
    have H4 := Lib.hid h4
    clear h3 h4
    go_wp2
    go_ret
    refine ⟨rfl, ?_, grownBy_trans (grownBy_any HB.out _) (grownBy_trans H2.out H4.out)⟩
    have := H3.out
    rw [Option.map_map] at this
    exact this
  · have e : (fun st : WSt => st.text s) = (fun st => st.fail 2) := by funext st; simp [WSt.text, hk]
    rw [e]
    clear e
    go_enter Tryd.func44, Tryd.ntmps44
    go_wp2_with fail
    refine (fail_ws 2 _ p st H.out).mono ?_
    rintro e w' ⟨rfl, h1, h2⟩
    have H1 := Lib.hid h1
    have H2 := Lib.hid h2
    clear h1 h2
    go_wp2
    go_ret
    exact ⟨rfl, H1.out, H2.out⟩

end Go.Proofs.YtemgeelgkokpcaaDoor
