/- The walks of the document's Encode and Value of an entry. -/
import Derived.Test.YtemndmhdlgfajaaDoorEntA
import Derived.Test.YtemndmhdlgfajaaDoorHeaderCodesB2
import Derived.Test.YtemndmhdlgfajaaDoorRefTag
namespace Go.Proofs.YtemndmhdlgfajaaDoor
open Go.RowKit
attribute [local irreducible] shaL

theorem conv1 (w : World) (c : Nat) (hc : c < 256) (b : Nat) (h : w.heap[b]? = some (.cells #[.int .u8 (c : Int)] 5 (0, 0))) :
    (convert 67 9 (.slice (some ⟨b, 0, none⟩) 1 1)).run Tryd.prog w = .ok (.string (str (be c 1))) w := by
  have e : (#[.int .u8 (c : Int)] : Array Value) = (u8s (be c 1)).toArray := by
    have h1 : be c 1 = [UInt8.ofNat (c % 256)] := by simp [be]
    have h2 : (UInt8.ofNat (c % 256)).toNat = c := by simp; omega
    rw [h1]
    show _ = (List.map (fun c : UInt8 => Value.int .u8 c.toNat) _).toArray
    simp only [List.map_cons, List.map_nil, h2]
  rw [e] at h
  have hl : (be c 1).length = 1 := be_length c 1
  have := row_string h 1
  rwa [hl] at this
theorem refNum4 (v : Nat) (hv : v ≤ 4294967295) (w : World) :
    Calls Tryd.prog 44 #[.int .u64 v, .int .i64 4] w fun e w' => e = .returned (.string (str (be v 4))) ∧ w.grownBy w' none := by
  have h := refNum_any v (by omega) 4 (by omega) w
  unfold refNum at h
  rwa [if_pos ⟨by omega, by omega, by show v < 4294967296; omega⟩] at h
end Go.Proofs.YtemndmhdlgfajaaDoor
