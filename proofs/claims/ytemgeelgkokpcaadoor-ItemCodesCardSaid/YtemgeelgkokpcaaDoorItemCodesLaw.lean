/- The walk of the law ItemCodes. -/
import Derived.Test.YtemgeelgkokpcaaDoorItmC
import Derived.Test.YtemgeelgkokpcaaDoorItmQ
import Derived.Test.YtemgeelgkokpcaaDoorItmY
namespace Go.Proofs.YtemgeelgkokpcaaDoor
open Go.RowKit

set_option maxRecDepth 100000 in
set_option maxHeartbeats 3200000 in
theorem itemCodes_walk (aa : Option Addr) (an ac : Nat) (L : List NodI) (w : World) (hL : NodsAt w (.slice aa an ac) L) (hI : InOk L) (hc : an ≤ ac) (hm : ac ≤ maxLen) (hT : IT w.heap.size w) :
    Calls Tryd.prog 3 #[.slice aa an ac] w fun e w' => e = .returned (.bool true) ∧ w.grownBy w' none := by
  have HSP := Lib.hid (itm_speaks w hT)
  obtain ⟨M, hM⟩ : ∃ M, min an 40 = M := ⟨_, rfl⟩
  have hMi : min (an : Int) 40 = (M : Int) := by omega
  have m1 : M ≤ an ∧ M ≤ 40 ∧ M ≤ ac := by omega
  have i1 : (M : Int) ≤ (ac : Int) := by omega
  have i2 : (0 : Int) ≤ (M : Int) := by omega
  have i3 : (M : Int) ≤ (an : Int) := by omega
  have hIt := hI.take M
  have hlt : (L.take M).length ≤ 100 := by rw [List.length_take]; omega
  obtain ⟨s1, s2, s3, s4, s5, s6, s7⟩ := made_small (L.take M) hIt hlt
  have s8 := made_sm (L.take M) hIt
  have HMA := Lib.hid (fun w' (k : w.grownBy w' none) => made_any aa M ac (L.take M) w' ((hL.go k).take M m1.1) hIt (by omega))
  have HT := Lib.hid hT
  unfold maxLen at hm
  clear hL hI hT hIt hlt hM
  obtain ⟨T, hTT⟩ : ∃ T, madeT (L.take M) = T := ⟨_, rfl⟩
  rw [hTT] at s1 s2 s3 s4 s5 s6 s7 s8 HMA
  have e1 : encE T = 0 := by unfold encE; rw [if_neg (by omega)]; exact s4
  have e2 : encB T = str (encT T) := by unfold encB; rw [if_pos e1]
  have HS := Lib.hid (And.intro s1 (And.intro s2 (And.intro s3 (And.intro s4 (And.intro s5 (And.intro s6 (And.intro s7 s8)))))))
  have HE := Lib.hid (And.intro e1 e2)
  clear hTT s1 s2 s3 s4 s5 s6 s7 s8 e1 e2
  go_enter Tryd.func3, Tryd.ntmps3
  go_wp2_with fail
  refine HSP.out.mono ?_
  rintro e w1 ⟨rfl, g1⟩
  have G1 := Lib.hid g1
  clear g1 HSP
  go_wp2_with fail
  refine (HMA.out w1 G1.out).mono ?_
  rintro e w2 ⟨v, nv, k2, rfl, hit, hrow, g2⟩
  have H2 := Lib.hid (And.intro hit (And.intro hrow (grownBy_trans G1.out g2)))
  clear hit hrow g2 G1 HMA
  go_wp2_with fail
  refine (refEnc_any T HS.out.2.2.2.2.2.2.2 (by have := HS.out.2.1; omega) w2 _ nv H2.out.2.1).mono ?_
  rintro e w3 ⟨k3, rfl, g3⟩
  have H3 := Lib.hid (And.intro (H2.out.1.grown g3) (grownBy_trans H2.out.2.2 g3))
  clear g3 H2
  have HN := Lib.hid (iencode_any v T w3 H3.out.1 HS.out.2.2.1 (by have := HS.out.2.2.2.2.1; omega) (by have := HS.out.1; omega))
  rw [HE.out.1, HE.out.2] at HN
  go_wp2_with fail
  refine HN.out.mono ?_
  rintro e w4 ⟨rfl, g4⟩
  have H4 := Lib.hid (And.intro (H3.out.1.grown g4) (grownBy_trans H3.out.2 g4))
  clear g4 H3 HN
  go_wp2_with fail
  refine (idecode_ok T HS.out.2.2.1 HS.out.2.2.2.1 HS.out.1 (by have := HS.out.2.2.2.2.1; omega) w4).mono ?_
  rintro e w5 ⟨y, rfl, hy, g5⟩
  have H5 := Lib.hid (And.intro (H4.out.1.grown g5) (And.intro hy (grownBy_trans H4.out.2 g5)))
  clear hy g5 H4
  have HN := Lib.hid (iencode_any y T w5 H5.out.2.1 HS.out.2.2.1 (by have := HS.out.2.2.2.2.1; omega) (by have := HS.out.1; omega))
  rw [HE.out.1, HE.out.2] at HN
  go_wp2_with fail
  refine HN.out.mono ?_
  rintro e w6 ⟨rfl, g6⟩
  have H6 := Lib.hid (And.intro (H5.out.1.grown g6) (And.intro (H5.out.2.1.grown g6) (grownBy_trans H5.out.2.2 g6)))
  clear g6 H5 HN
  have HS1 := Lib.hid (ishow_any v T w6 H6.out.1 HS.out.2.2.1 (by have := HS.out.2.2.2.2.2.1; omega) (by have := HS.out.2.2.2.2.2.2.1; omega) (HT.out.on H6.out.2.2))
  go_wp2_with fail
  refine HS1.out.mono ?_
  rintro e w7 ⟨rfl, g7⟩
  have H7 := Lib.hid (And.intro (H6.out.2.1.grown g7) (grownBy_trans H6.out.2.2 g7))
  clear g7 H6 HS1
  have HS2 := Lib.hid (ishow_any y T w7 H7.out.1 HS.out.2.2.1 (by have := HS.out.2.2.2.2.2.1; omega) (by have := HS.out.2.2.2.2.2.2.1; omega) (HT.out.on H7.out.2))
  go_wp2_with fail
  refine HS2.out.mono ?_
  rintro e w8 ⟨rfl, g8⟩
  have G8 := Lib.hid (grownBy_trans H7.out.2 g8)
  clear g8 H7 HS2
  go_wp2_with fail
  go_ret
  exact ⟨by first | rfl | simp, G8.out⟩
end Go.Proofs.YtemgeelgkokpcaaDoor
