/- The document's Next (plumbobref01) at every text. -/
import Derived.Test.YtgolffjiepcbpaaDoorLabelNextB
namespace Go.Proofs.YtgolffjiepcbpaaDoor
open Go.RowKit

theorem byte_at (s : ByteArray) (k : Nat) (h : k < s.size) : (s[k]'h).toNat = (s.data.toList.getD k 0).toNat := by
  have hk : k < s.data.toList.length := h
  rw [List.getD_eq_getElem?_getD, List.getElem?_eq_getElem hk]
  rfl

/-- the document's Next, at every text -/
theorem refNext_any (s : ByteArray) (w : World) : NextSays w s (refNextL s.data.toList) := by
  by_cases h : 0 < s.size
  · have hl : s.data.toList ≠ [] := by
      intro e
      have : s.data.toList.length = 0 := by rw [e]; rfl
      have h2 : s.data.toList.length = s.size := rfl
      omega
    rw [refNextL_eq _ hl, show s.data.toList.length = s.size from rfl]
    exact refNext_by s h w _ _ _ _ (byte_at s 0 h) (byte_at s 1) (byte_at s 2) (byte_at s 3) (UInt8.toNat_lt _) (UInt8.toNat_lt _) (UInt8.toNat_lt _) (UInt8.toNat_lt _)
  · have e : s.data.toList = [] := List.eq_nil_of_length_eq_zero (by show s.size = 0; omega)
    rw [e]
    exact next_empty s (by omega) w
end Go.Proofs.YtgolffjiepcbpaaDoor
