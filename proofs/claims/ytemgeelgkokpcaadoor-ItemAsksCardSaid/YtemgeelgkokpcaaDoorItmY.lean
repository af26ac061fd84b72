/- Layer 4 speaks. -/
import Derived.Test.YtemgeelgkokpcaaDoorItmX
import Derived.Test.YtemgeelgkokpcaaDoorItmQ
namespace Go.Proofs.YtemgeelgkokpcaaDoor
open Go.RowKit

def trS : Tr := .list [.num 1, .text ⟨#[97]⟩]
theorem trS_show : str (showT trS) = ⟨#[91, 49, 32, 34, 97, 34, 93]⟩ := by
  have h1 : Lib.itoa 1 = [49] := by
    rw [show (1 : Int) = ((1 : Nat) : Int) from rfl, Lib.itoa_nonneg, Lib.decDigits_one (by decide)]
    rfl
  unfold trS
  rw [showT, showTs, showTs, showTs, showT, showT, h1]
  rfl
theorem trS_err : errT trS = 0 := by decide
theorem trS_dep : depT trS = 2 := by decide
theorem trS_ok : okT trS := by
  unfold trS
  rw [okT, okTs, okTs, okTs, okT, okT]
  decide
theorem trS_enc : (encT trS).length ≤ 100 := by decide
theorem trS_wk : wkT trS ≤ 900 := by decide
theorem trS_len : (showT trS).length ≤ 400000000 := by
  have := congrArg ByteArray.size trS_show
  rw [str_size] at this
  rw [this]
  decide
theorem trS_encE : encE trS = 0 := by unfold encE; rw [trS_dep, if_neg (by decide), trS_err]
theorem trS_encB : encB trS = str (encT trS) := by unfold encB; rw [if_pos trS_encE]
set_option maxRecDepth 100000 in
set_option maxHeartbeats 3200000 in
theorem itm_speaks (w : World) (hT : IT w.heap.size w) :
    Calls Tryd.prog 7 #[] w fun e w' => e = .returned (.bool true) ∧ w.grownBy w' none := by
  have HT := Lib.hid (fun w' (k : w.grownBy w' none) (B : Nat) (hB : w.heap.size ≤ B) (w'' : World) (k2 : Below B w' w'') => hT w'' ((below_grownBy k).trans (k2.mono hB)))
  clear hT
  go_enter Tryd.func7, Tryd.ntmps7
  go_wp2_with fail
  refine (inum_any 1 w).mono ?_
  rintro e w1 ⟨rfl, rfl⟩
  go_wp2_with fail
  refine (itext_any ⟨#[97]⟩ w).mono ?_
  rintro e w1 ⟨rfl, rfl⟩
  have ga := World.grownBy_alloc w (.cells #[vNum 1, vText ⟨#[97]⟩] 24) none
  have hoa : (w.alloc (.cells #[vNum 1, vText ⟨#[97]⟩] 24)).ownsRow 0 24 1 (.slice (some ⟨w.heap.size, 0, none⟩) 2 2) 2 [vNum 1, vText ⟨#[97]⟩] := World.ownsRow_lit w #[vNum 1, vText ⟨#[97]⟩] 2 (Nat.zero_le _) (by decide) rfl
  have hall : AllAt (w.alloc (.cells #[vNum 1, vText ⟨#[97]⟩] 24)) (fun i => w.heap.size ≤ i) [vNum 1, vText ⟨#[97]⟩] [.num 1, .text ⟨#[97]⟩] := by
    have h1 := (AllAt.nil (w.alloc (.cells #[vNum 1, vText ⟨#[97]⟩] 24)) (fun i => w.heap.size ≤ i)).push (v := vNum 1) (t := .num 1) (by rw [ItemAt])
    exact h1.push (v := vText ⟨#[97]⟩) (t := .text ⟨#[97]⟩) (by rw [ItemAt])
  have HLI := Lib.hid (ilist_any _ 2 _ _ _ hoa hall (by decide) (by decide))
  have HG := Lib.hid ga
  clear ga hoa hall
  unfold vNum vText at *
  go_wp2_with fail
  refine HLI.out.mono ?_
  rintro e w2 ⟨b, rfl, hit, g2⟩
  have H2 := Lib.hid (And.intro (show ItemAt w2 _ (vList b) trS from hit) (grownBy_trans HG.out g2))
  clear hit g2 HLI
  have HEN := Lib.hid (iencode_any (vList b) trS w2 H2.out.1 trS_ok (Nat.le_trans trS_enc (by decide)) (by rw [trS_dep]; decide))
  rw [trS_encE, trS_encB] at HEN
  go_wp2_with fail
  refine HEN.out.mono ?_
  rintro e w3 ⟨rfl, g3⟩
  have H3 := Lib.hid (And.intro (H2.out.1.grown g3) (grownBy_trans H2.out.2 g3))
  clear g3 H2 HEN
  have HDE := Lib.hid (idecode_ok trS trS_ok trS_err (by rw [trS_dep]; decide) (Nat.le_trans trS_enc (by decide)) w3)
  go_wp2_with fail
  refine HDE.out.mono ?_
  rintro e w4 ⟨y, rfl, hit, g4⟩
  have H4 := Lib.hid (And.intro (H3.out.1.grown g4) (And.intro hit (grownBy_trans H3.out.2 g4)))
  obtain ⟨ty, u, rfl⟩ := item_iface hit
  clear g4 hit H3 HDE
  have HS1 := Lib.hid (ishow_any (vList b) trS w4 H4.out.1 trS_ok trS_wk trS_len (fun w' k => HT.out w4 H4.out.2.2 _ H4.out.2.2.size w' k))
  rw [trS_show] at HS1
  have q : ((⟨#[91, 49, 32, 34, 97, 34, 93]⟩ : ByteArray).toList == (⟨#[91, 49, 32, 34, 97, 34, 93]⟩ : ByteArray).toList) = true := by simp
  go_wp2_with fail
  refine HS1.out.mono ?_
  rintro e w5 ⟨rfl, g5⟩
  have H5 := Lib.hid (And.intro (H4.out.2.1.grown g5) (grownBy_trans H4.out.2.2 g5))
  clear g5
  have HS2 := Lib.hid (ishow_any _ trS w5 H5.out.1 trS_ok trS_wk trS_len (fun w' k => HT.out w5 H5.out.2 _ H5.out.2.size w' k))
  rw [trS_show] at HS2
  go_wp2_with fail
  refine HS2.out.mono ?_
  rintro e w6 ⟨rfl, g6⟩
  have H6 := Lib.hid (grownBy_trans H5.out.2 g6)
  clear g6
  go_wp2_with fail
  go_ret
  exact ⟨rfl, H6.out⟩
end Go.Proofs.YtemgeelgkokpcaaDoor
