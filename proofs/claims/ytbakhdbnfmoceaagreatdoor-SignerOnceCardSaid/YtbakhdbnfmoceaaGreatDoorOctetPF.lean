/- The walk of a Writer's Fixed. -/
import Derived.Test.YtbakhdbnfmoceaaGreatDoorOctetP
namespace Go.Proofs.YtbakhdbnfmoceaaGreatDoor
open Go.RowKit

set_option maxHeartbeats 400000 in
theorem wfixed_any (s : ByteArray) (k : Int) (w : World) (p : Option Addr) (st : Option WSt) (h : WsAt w p st) (hs : WRoom st s.size) :
    Calls Tryz.prog 91 #[.pointer p, .string s, .int .i64 k] w fun e w' => e = .returned (.pointer p) ∧ WsAt w' p (st.map (·.fixed s k)) ∧ w.grownBy w' (prow p) := by
  have H := Lib.hid h
  clear h
  by_cases hk : (s.size : Int) = k
  · have e : (fun st : WSt => st.fixed s k) = (fun st => st.put s) := by funext st; simp [WSt.fixed, hk]
    rw [e]
    clear e
    subst hk
    go_enter Tryz.func91, Tryz.ntmps91
    go_wp2_with fail
    refine (put_ws s _ p st H.out hs).mono ?_
    rintro e w' ⟨rfl, h1, h2⟩
    have H1 := Lib.hid h1
    have H2 := Lib.hid h2
    clear h1 h2
    go_wp2
    go_ret
    exact ⟨rfl, H1.out, H2.out⟩
  · have e : (fun st : WSt => st.fixed s k) = (fun st => st.fail 10) := by funext st; simp [WSt.fixed, hk]
    rw [e]
    clear e
    go_enter Tryz.func91, Tryz.ntmps91
    go_wp2_with fail
    refine (fail_ws 10 _ p st H.out).mono ?_
    rintro e w' ⟨rfl, h1, h2⟩
    have H1 := Lib.hid h1
    have H2 := Lib.hid h2
    clear h1 h2
    go_wp2
    go_ret
    exact ⟨rfl, H1.out, H2.out⟩

end Go.Proofs.YtbakhdbnfmoceaaGreatDoor
