/- The walk of the document's Why. -/
import Derived.Test.YtioahjdojgcfdaaDoorRosterLaysB4
import Derived.Test.YtioahjdojgcfdaaDoorRosterLaysB3
namespace Go.Proofs.YtioahjdojgcfdaaDoor
open Go.RowKit Go.Lib

/-- a label may be, 'n' @ and the runes 'cur' since the last separator being behind -/
def okR (n : Nat) (cur R : List Nat) : Bool := decide (n + at64 R ≤ 1) && (partsR cur R).all partR
theorem okR_label (R : List Nat) : okR 0 [] R = labelR R := by unfold okR labelR; rw [Nat.zero_add]
theorem okR_end (n : Nat) (cur : List Nat) : okR n cur [] = (partR cur && decide (n ≤ 1)) := by
  unfold okR
  show (decide (n + 0 ≤ 1) && [cur].all partR) = _
  simp [Bool.and_comm]
theorem at64_cons (r : Nat) (R : List Nat) : at64 (r :: R) = at64 R + if r = 64 then 1 else 0 := by
  unfold at64
  rw [List.countP_cons]
  simp
theorem okR_sep (n : Nat) (cur R : List Nat) (r : Nat) (h : sepI (r : Int) = true) : okR n cur (r :: R) = (partR cur && okR (n + if r = 64 then 1 else 0) [] R) := by
  unfold okR
  rw [at64_cons, partsR_cons, if_pos h, List.all_cons, show n + (at64 R + if r = 64 then 1 else 0) = n + (if r = 64 then 1 else 0) + at64 R by omega]
  cases partR cur <;> simp
theorem okR_go (n : Nat) (cur R : List Nat) (r : Nat) (h : sepI (r : Int) = false) : okR n cur (r :: R) = okR n (cur ++ [r]) R := by
  have h64 : r ≠ 64 := by
    intro e
    subst e
    revert h
    decide
  unfold okR
  rw [at64_cons, if_neg h64, partsR_cons, if_neg (by rw [h]; decide), Nat.add_zero]
theorem good_app (a b : List Nat) : goodRunes (a ++ b) = (goodRunes a && goodRunes b) := by unfold goodRunes; rw [List.all_append]
theorem bad_parts : ∀ (R cur : List Nat), goodRunes cur = false → (partsR cur R).all partR = false
  | [], cur, h => by simp [partsR, partR, h]
  | r :: R, cur, h => by
    rw [partsR_cons]
    split
    · simp [partR, h]
    · exact bad_parts R (cur ++ [r]) (by rw [good_app, h]; rfl)
theorem okR_bad (n : Nat) (cur R : List Nat) (r : Nat) (h : sepI (r : Int) = false) (hl : letterI (r : Int) = 0) (hd : digI (r : Int) = false) : okR n cur (r :: R) = false := by
  rw [okR_go n cur R r h]
  unfold okR
  rw [bad_parts R (cur ++ [r]) (by rw [good_app, show goodRunes [r] = false by simp [goodRunes, hl, hd], Bool.and_false]), Bool.and_false]

set_option maxRecDepth 100000 in
set_option maxHeartbeats 1000000 in
theorem why_any (s : ByteArray) (w : World) (hs : s.size ≤ 1099511627776) :
    Calls Tryd.prog 77 #[.string s] w fun e w' => e = .returned (.int .i64 (normalI s.data.toList).2) ∧ Below w.heap.size w w' := by
  have hrl := runes_length_le s.data.toList.length s.data.toList (Nat.le_refl _)
  have hsl : s.data.toList.length = s.size := rfl
  have hle := runes_le s.data.toList.length s.data.toList (Nat.le_refl _)
  cases hv : validD s.data.toList with
  | false =>
    have hN : (normalI s.data.toList).2 = 4 := by unfold normalI; rw [if_pos hv]
    rw [hN]
    have HV := Lib.hid hv
    clear hv hN hle hrl
    go_enter Tryd.func77, Tryd.ntmps77
    go_wp2_with fail
    refine (refRunes_bad s _ hs HV.out).mono ?_
    rintro e w2 ⟨rfl, hb⟩
    have HB := Lib.hid hb
    clear hb
    go_wp2_with fail
    go_ret
    exact ⟨rfl, HB.out⟩
  | true =>
    have hN : (normalI s.data.toList).2 = if 64 < (runes s.data.toList).length then 2 else if labelR (runes s.data.toList) = false then 5 else 0 := by
      obtain ⟨R, hR, hRl⟩ := valid_is hv
      rw [hRl, runes_enc R hR, normal_enc hR]
      repeat' split
      all_goals rfl
    rw [hN]
    obtain ⟨R, hR⟩ : ∃ R, R = runes s.data.toList := ⟨_, rfl⟩
    rw [← hR] at hrl hle ⊢
    obtain ⟨ans, hans⟩ : ∃ ans : Int, ans = if 64 < R.length then 2 else if labelR R = false then 5 else 0 := ⟨_, rfl⟩
    rw [← hans]
    have HANS := Lib.hid hans
    clear hans
    have HV := Lib.hid hv
    have HR := Lib.hid hR
    have HLE := Lib.hid hle
    clear hv hR hle hN
    go_enter Tryd.func77, Tryd.ntmps77
    go_wp2_with fail
    refine (refRunes_good s _ hs HV.out).mono ?_
    rintro e w2 ⟨⟨v, rfl, hown⟩, hb⟩
    rw [← HR.out] at hown
    have HB := Lib.hid hb
    clear hb
    by_cases hlong : 64 < R.length
    · rcases int_row hown with ⟨hv0, hn0⟩ | ⟨g, cap, hv0, hgl, hcells⟩
      · subst hn0
        exact absurd hlong (by decide)
      · subst hv0
        clear hown
        go_wp2_with fail
        go_ret
        refine ⟨?_, HB.out⟩
        rw [HANS.out, if_pos hlong]
        rfl
    · have hok : ans = if okR 0 [] R = false then 5 else 0 := by rw [okR_label, HANS.out, if_neg hlong]
      have HOK := Lib.hid hok
      clear hok HANS
      rcases int_row hown with ⟨hv0, hn0⟩ | ⟨g, cap, hv0, hgl, hcells⟩
      · subst hn0
        subst hv0
        clear hown
        go_wp2_with fail
        refine wp_loop_rounds 1 ?_
        rw [rounds_succ]
        go_wp2_with fail
        go_ret
        refine ⟨?_, HB.out⟩
        rw [HOK.out]
        rfl
      · subst hv0
        have HC := Lib.hid (And.intro hgl hcells)
        have hlc : ((64 : Int) < (R.length : Int)) = False := eq_false (by omega)
        clear hown hgl hcells
        go_wp2_with fail
        go_loopg [2, 5, 6, 7, 8, 9] (R.length + 1) (fun n _ av bv sv iv _ wx => ∃ i ats : Nat, ∃ cur : List Nat, i + n ≥ R.length + 1 ∧ ats ≤ i ∧ iv = .int .i64 i ∧ av = .int .i64 ats ∧ bv = .int .i64 (alphOf 0 cur) ∧ sv = .bool (!cur.isEmpty) ∧
          Aside (goodRunes cur = true ∧ ((i ≤ R.length ∧ okR 0 [] R = okR ats cur (R.drop i)) ∨ (i = R.length + 1 ∧ okR 0 [] R = decide (ats ≤ 1)))) ∧ Hid (wx = w2))
        case atStart => exact ⟨0, 0, [], by omega, by omega, rfl, rfl, rfl, rfl, ⟨rfl, .inl ⟨Nat.zero_le _, rfl⟩⟩, rfl⟩
        case round =>
          obtain ⟨i, ats, cur, hn, hat, rfl, rfl, rfl, rfl, HL, hwx⟩ := hrel
          have hwx' := hwx.out
          subst hwx'
          by_cases hlt : i < R.length + 1
          · have hst : okR 0 [] R = okR ats cur (R.drop i) := by
              rcases HL.out.2 with h | h
              · exact h.2
              · omega
            have hgc := HL.out.1
            have hoct := oct_alph cur 0 (.inl rfl)
            have hpc : partR cur = (!cur.isEmpty && oneI (alphOf 0 cur)) := by unfold partR; rw [hgc, Bool.true_and]
            have he0 : cur.isEmpty = true → alphOf 0 cur = 0 := fun h => by rw [List.isEmpty_iff.1 h]; rfl
            obtain ⟨A, hA⟩ : ∃ A, A = alphOf 0 cur := ⟨_, rfl⟩
            rw [← hA] at hoct hpc he0
            have hAA := Lib.hid hA
            have HGC := Lib.hid hgc
            have HST := Lib.hid hst
            rw [← hA]
            clear hA hgc hst HL
            by_cases hend : i = R.length
            · have hok2 : okR 0 [] R = (partR cur && decide (ats ≤ 1)) := by rw [HST.out, List.drop_of_length_le (by omega), okR_end]
              rw [hpc] at hok2
              have HK := Lib.hid hok2
              clear hok2 hpc HST
              subst hend
              have hq1 : ((R.length : Int) < (R.length : Int)) = False := eq_false (by omega)
              cases he : cur.isEmpty with
              | true =>
                have hA0 := he0 he
                have HE := Lib.hid he
                subst hA0
                clear he0 he hoct
                go_wp2_with fail
                go_ret
                refine ⟨?_, HB.out⟩
                rw [HOK.out, HK.out, HE.out]
                rfl
              | false =>
                have HE := Lib.hid he
                clear he0 he
                rcases hoct with h | h | h | h | h | h | h | h
                all_goals subst h
                all_goals go_wp2_with fail
                all_goals first
                  | (go_roundg (gk - 1)
                     case measure => omega
                     case rel => exact ⟨R.length + 1, ats, [], by omega, by omega, by go_num, rfl, rfl, rfl, ⟨rfl, .inr ⟨rfl, by rw [HK.out, HE.out]; simp [oneI]⟩⟩, rfl⟩)
                  | (go_ret
                     refine ⟨?_, HB.out⟩
                     rw [HOK.out, HK.out, HE.out]
                     rfl)
            · have hil : i < R.length := by omega
              have hcell0 := HC.out.2 i hil
              have hdrop : R.drop i = R[i]'hil :: R.drop (i + 1) := List.drop_eq_getElem_cons hil
              have hxr := HLE.out _ (List.getElem_mem hil)
              obtain ⟨x, hx⟩ : ∃ x, x = R[i]'hil := ⟨_, rfl⟩
              rw [← hx] at hcell0 hdrop hxr
              have hst := HST.out
              rw [hdrop] at hst
              have hne : ((i : Int) == (R.length : Int)) = false := by rw [beq_eq_false_iff_ne]; omega
              clear hx hdrop HST
              cases hsep : sepI (x : Int) with
              | true =>
                rw [okR_sep ats cur _ x hsep, hpc] at hst
                have HK := Lib.hid hst
                have hx4 : x = 46 ∨ x = 45 ∨ x = 95 ∨ x = 64 := by
                  unfold sepI at hsep
                  simp at hsep
                  omega
                clear hst hpc hsep
                cases he : cur.isEmpty with
                | true =>
                  have hA0 := he0 he
                  have HE := Lib.hid he
                  subst hA0
                  clear he0 he hoct
                  rcases hx4 with h | h | h | h
                  all_goals subst h
                  all_goals go_wp2_with fail
                  all_goals go_ret
                  all_goals refine ⟨?_, HB.out⟩
                  all_goals rw [HOK.out, HK.out, HE.out]
                  all_goals rfl
                | false =>
                  have HE := Lib.hid he
                  clear he0 he
                  rcases hx4 with h | h | h | h
                  all_goals subst h
                  all_goals rcases hoct with h | h | h | h | h | h | h | h
                  all_goals subst h
                  all_goals go_wp2_with fail
                  all_goals first
                    | (go_roundg (gk - 1)
                       case measure => omega
                       case rel => exact ⟨i + 1, ats, [], by omega, by omega, by go_num, rfl, rfl, rfl, ⟨rfl, .inl ⟨by omega, by rw [HK.out, HE.out]; simp [oneI]⟩⟩, rfl⟩)
                    | (go_roundg (gk - 1)
                       case measure => omega
                       case rel => exact ⟨i + 1, ats + 1, [], by omega, by omega, by go_num, by go_num, rfl, rfl, ⟨rfl, .inl ⟨by omega, by rw [HK.out, HE.out]; simp [oneI]⟩⟩, rfl⟩)
                    | (go_ret
                       refine ⟨?_, HB.out⟩
                       rw [HOK.out, HK.out, HE.out]
                       rfl)
              | false =>
                have hx46 : ((x : Int) == 46) = false := by rw [beq_eq_false_iff_ne]; intro e; rw [e] at hsep; revert hsep; decide
                have hx45 : ((x : Int) == 45) = false := by rw [beq_eq_false_iff_ne]; intro e; rw [e] at hsep; revert hsep; decide
                have hx95 : ((x : Int) == 95) = false := by rw [beq_eq_false_iff_ne]; intro e; rw [e] at hsep; revert hsep; decide
                have hx64 : ((x : Int) == 64) = false := by rw [beq_eq_false_iff_ne]; intro e; rw [e] at hsep; revert hsep; decide
                have hgo := hst
                rw [okR_go ats cur _ x hsep] at hgo
                have hbad := okR_bad ats cur (R.drop (i + 1)) x hsep
                rw [← hst] at hbad
                have halph := alphOf_snoc 0 cur x
                rw [← hAA.out] at halph
                have hgood : ∀ (_ : (digI (x : Int) || !(letterI (x : Int) == 0)) = true), goodRunes (cur ++ [x]) = true := fun h => by
                  rw [good_app, HGC.out, Bool.true_and]
                  show ((digI (x : Int) || !(letterI (x : Int) == 0)) && true) = true
                  rw [h]
                  rfl
                have HG := Lib.hid hgo
                have HBAD := Lib.hid hbad
                have HALPH := Lib.hid halph
                have HGOOD := Lib.hid hgood
                clear hst hpc hsep he0 hoct hgo hbad halph hgood
                by_cases hl : letterI (x : Int) = 0
                · by_cases h48 : (x : Int) < 48
                  · have hd : digI (x : Int) = false := by unfold digI; rw [decide_eq_false (show ¬ (48 : Int) ≤ x by omega)]; rfl
                    have HD := Lib.hid hd
                    have HLL := Lib.hid hl
                    clear hl hd
                    go_wp2_with fail
                    refine (refLetter_any (x : Int) ⟨by omega, by omega⟩ _).mono ?_
                    rintro e w6 ⟨rfl, rfl⟩
                    rw [HLL.out]
                    go_wp2_with fail
                    go_ret
                    refine ⟨?_, HB.out⟩
                    rw [HOK.out, HBAD.out HLL.out HD.out]
                    rfl
                  · by_cases h57 : 57 < (x : Int)
                    · have hd : digI (x : Int) = false := by unfold digI; rw [decide_eq_false (show ¬ (x : Int) ≤ 57 by omega), Bool.and_false]
                      have HD := Lib.hid hd
                      have HLL := Lib.hid hl
                      have h48' : ((x : Int) < 48) = False := eq_false h48
                      clear hl hd h48
                      go_wp2_with fail
                      refine (refLetter_any (x : Int) ⟨by omega, by omega⟩ _).mono ?_
                      rintro e w6 ⟨rfl, rfl⟩
                      rw [HLL.out]
                      go_wp2_with fail
                      go_ret
                      refine ⟨?_, HB.out⟩
                      rw [HOK.out, HBAD.out HLL.out HD.out]
                      rfl
                    · have hd : digI (x : Int) = true := by unfold digI; rw [decide_eq_true (show (48 : Int) ≤ x by omega), decide_eq_true (show (x : Int) ≤ 57 by omega)]; rfl
                      have HD := Lib.hid hd
                      have HLL := Lib.hid hl
                      have h48' : ((x : Int) < 48) = False := eq_false h48
                      have h57' : ((57 : Int) < x) = False := eq_false h57
                      clear hl hd h48 h57
                      go_wp2_with fail
                      refine (refLetter_any (x : Int) ⟨by omega, by omega⟩ _).mono ?_
                      rintro e w6 ⟨rfl, rfl⟩
                      rw [HLL.out]
                      go_wp2_with fail
                      go_roundg (gk - 1)
                      case measure => omega
                      case rel =>
                        have hA3 := HALPH.out
                        rw [HLL.out] at hA3
                        refine ⟨i + 1, ats, cur ++ [x], by omega, by omega, by go_num, rfl, ?_, by simp, ⟨HGOOD.out (by rw [HD.out]; rfl), .inl ⟨by omega, HG.out⟩⟩, rfl⟩
                        rw [hA3]
                · have hlb : (letterI (x : Int) == 0) = false := by rw [beq_eq_false_iff_ne]; exact hl
                  obtain ⟨L, hL⟩ : ∃ L, L = letterI (x : Int) := ⟨_, rfl⟩
                  have hlb' := hlb
                  rw [← hL] at hlb'
                  have HLB := Lib.hid hlb
                  have HLL := Lib.hid hL
                  clear hl hlb hL
                  go_wp2_with fail
                  refine (refLetter_any (x : Int) ⟨by omega, by omega⟩ _).mono ?_
                  rintro e w6 ⟨rfl, rfl⟩
                  rw [← HLL.out]
                  go_wp2_with fail
                  go_roundg (gk - 1)
                  case measure => omega
                  case rel =>
                    have hA3 := HALPH.out
                    rw [← HLL.out] at hA3
                    refine ⟨i + 1, ats, cur ++ [x], by omega, by omega, by go_num, rfl, ?_, by simp, ⟨HGOOD.out (by rw [HLB.out]; simp), .inl ⟨by omega, HG.out⟩⟩, rfl⟩
                    rw [hA3]
          · have hcase : i = R.length + 1 ∧ okR 0 [] R = decide (ats ≤ 1) := by
              rcases HL.out.2 with h | h
              · omega
              · exact h
            have HF := Lib.hid hcase.2
            clear hcase HL
            by_cases hats : ats ≤ 1
            · have ha2 : ((1 : Int) < (ats : Int)) = False := eq_false (by omega)
              go_wp2_with fail
              go_ret
              refine ⟨?_, HB.out⟩
              rw [HOK.out, HF.out, decide_eq_true hats]
              rfl
            · have ha2 : (1 : Int) < (ats : Int) := by omega
              go_wp2_with fail
              go_ret
              refine ⟨?_, HB.out⟩
              rw [HOK.out, HF.out, decide_eq_false hats]
              rfl
end Go.Proofs.YtioahjdojgcfdaaDoor
