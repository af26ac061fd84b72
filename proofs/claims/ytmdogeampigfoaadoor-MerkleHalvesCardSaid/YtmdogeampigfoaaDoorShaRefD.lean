/- The walks of the document's root, roots. -/
import Derived.Test.YtmdogeampigfoaaDoorShaRefC
namespace Go.Proofs.YtmdogeampigfoaaDoor
open Go.RowKit

theorem bit_next (j : Nat) : 68719476736 / 2 ^ (j + 1) = 68719476736 / 2 ^ j / 2 := by rw [Nat.pow_succ, Nat.div_div_eq_div_mul]
theorem bit_pos (j : Nat) (h : j < 37) : 0 < 68719476736 / 2 ^ j := by
  refine Nat.div_pos ?_ (Nat.two_pow_pos j)
  have : 2 ^ j ≤ 2 ^ 36 := Nat.pow_le_pow_right (by decide) (by omega)
  simpa using this
theorem bit_le (j : Nat) : 68719476736 / 2 ^ j ≤ 68719476736 := Nat.div_le_self _ _
theorem bit_twice (j : Nat) (h : j < 37) : 137438953472 / 2 ^ j = 2 * (68719476736 / 2 ^ j) := by
  obtain ⟨r, hr⟩ : ∃ r, 36 = j + r := ⟨36 - j, by omega⟩
  have e1 : (68719476736 : Nat) = 2 ^ j * 2 ^ r := by rw [← Nat.pow_add, ← hr]
  have e2 : (137438953472 : Nat) = 2 ^ j * (2 * 2 ^ r) := by rw [Nat.mul_left_comm, ← e1]
  rw [e2, Nat.mul_div_cancel_left _ (Nat.two_pow_pos j), e1, Nat.mul_div_cancel_left _ (Nat.two_pow_pos j)]

set_option maxRecDepth 100000 in
set_option maxHeartbeats 800000 in
theorem root_any (w : World) (p : Nat) (cube : Bool) (hp : p ≤ 4294967296) :
    Calls Tryd.prog 60 #[.int .u64 p, .bool cube] w fun e w' => e = .returned (.int .u64 (rootR p cube : Nat)) ∧ w.grownBy w' none := by
  go_enter Tryd.func60, Tryd.ntmps60
  go_wp2_with fail
  go_loopw [5, 6] (fun xv bv wr => ∃ j : Nat, j ≤ 37 ∧ xv = .int .u64 (rootTo p cube j : Nat) ∧ bv = .int .u64 (68719476736 / 2 ^ j : Nat) ∧ Hid (w.grownBy wr none)) (fun _ bv _ => (intOf bv).toNat)
  case atStart => exact ⟨0, by omega, rfl, rfl, World.grownBy.refl _ _⟩
  case round =>
    obtain ⟨j, hj, rfl, rfl, HG⟩ := hrel
    have hlt := rootTo_lt p cube j hj
    by_cases hjl : j < 37
    · have hb0 := bit_pos j hjl
      have hb1 := bit_le j
      rw [bit_twice j hjl] at hlt
      have hn := bit_next j
      have hs : rootTo p cube (j + 1) = if aboveP (rootTo p cube j + 68719476736 / 2 ^ j) p cube then rootTo p cube j else rootTo p cube j + 68719476736 / 2 ^ j := rfl
      obtain ⟨x, hx⟩ : ∃ x, rootTo p cube j = x := ⟨_, rfl⟩
      obtain ⟨b, hb⟩ : ∃ b, 68719476736 / 2 ^ j = b := ⟨_, rfl⟩
      rw [hx, hb] at hs hlt
      rw [hb] at hb0 hb1 hn
      rw [hx, hb]
      have HS := Lib.hid (And.intro hs hn)
      clear hs hn hx hb
      go_wp2_with fail
      rw [show (x : Int) + (b : Int) = ((x + b : Nat) : Int) from by simp]
      refine (above_any _ (x + b) p cube (by omega) hp).mono ?_
      rintro e w1 ⟨rfl, g1⟩
      have HG1 := Lib.hid (grownBy_trans HG.out g1)
      clear g1
      have hab := HS.out.1
      generalize aboveP (x + b) p cube = t at hab ⊢
      have HAB := Lib.hid hab
      clear hab
      cases t
      all_goals
        go_wp2_with fail
        go_roundw
      · case rel =>
          refine ⟨j + 1, by omega, ?_, ?_, HG1.out⟩
          · rw [HAB.out]; rfl
          · rw [HS.out.2]; simp
      · case measure => simp [intOf] <;> omega
      · case rel =>
          refine ⟨j + 1, by omega, ?_, ?_, HG1.out⟩
          · rw [HAB.out]; rfl
          · rw [HS.out.2]; simp
      · case measure => simp [intOf] <;> omega
    · have : j = 37 := by omega
      subst this
      have hr : rootR p cube = rootTo p cube 37 % 4294967296 := rfl
      rw [show 68719476736 / 2 ^ 37 = 0 from by decide] 
      have hlt2 : rootTo p cube 37 ≤ 137438953472 := by omega
      clear hlt
      generalize rootTo p cube 37 = x at hr hlt2 ⊢
      have HRR := Lib.hid hr
      clear hr
      go_wp2_with fail
      go_ret
      refine ⟨ret_int ?_, HG.out⟩
      rw [HRR.out]
      simp

/-- the primes' roots -/
def rootsTo (q : Nat) (cube : Bool) : List Nat := (primesTo q).map (rootR · cube)
theorem rootsTo_length (q : Nat) (cube : Bool) : (rootsTo q cube).length = (primesTo q).length := by simp [rootsTo]
theorem rootsTo_succ (q : Nat) (cube : Bool) (h : 2 ≤ q) : rootsTo (q + 1) cube = rootsTo q cube ++ if isP q then [rootR q cube] else [] := by
  rw [rootsTo, rootsTo, primesTo_succ q h, List.map_append]
  congr 1
  split <;> rfl
theorem slice_of_own {w : World} {B n : Nat} {t : TypeId} {v : Value} {xs : List Value} (h : w.ownsRow B t 1 v n xs) : ∃ a cap, v = .slice a n cap := by
  rcases h.2 with ⟨rfl, rfl⟩ | ⟨g, cap, cur, rfl, _⟩
  · exact ⟨_, _, rfl⟩
  · exact ⟨_, _, rfl⟩
theorem u64_kept {w w' : World} {B n : Nat} {v : Value} {xs : List Value} (h : w.ownsRow B 77 1 v n xs) (hg : w.grownBy w' none) : w'.ownsRow B 77 1 v n xs := by
  refine ⟨h.1, ?_⟩
  rcases h.2 with h' | ⟨g, cap, cur, rfl, a, hgg, r⟩
  · exact .inl h'
  · refine .inr ⟨g, cap, cur, rfl, a, ?_, r⟩
    rw [hg.block g (Array.getElem?_eq_some_iff.1 hgg).1 (by simp)]
    exact hgg

set_option maxRecDepth 100000 in
set_option maxHeartbeats 1600000 in
theorem roots_any (w : World) (count : Nat) (cube : Bool) (E : Nat) (hE : E ≤ 1000) (hE2 : 2 ≤ E) (hc : (primesTo E).length = count) (hb : (primesTo (E - 1)).length < count) :
    Calls Tryd.prog 53 #[.int .i64 count, .bool cube] w fun e w' => ∃ v, e = .returned v ∧ w'.ownsRow w.heap.size 77 1 v count (u64s (rootsTo E cube)) ∧ w.grownBy w' none := by
  obtain ⟨i0, hi, hz0, hz1, hz2⟩ := info_parts infoU64
  have HC := Lib.hid (And.intro hc hb)
  have hcl : count ≤ 1000 := by
    rw [← hc]
    unfold primesTo
    exact Nat.le_trans (List.length_filter_le _ _) (by simp; omega)
  clear hc hb
  go_enter Tryd.func53, Tryd.ntmps53
  go_wp2_with fail
  go_loopw [5, 6] (fun ov pv wr => ∃ q : Nat, ∃ a cap, 2 ≤ q ∧ q ≤ E ∧ pv = .int .u64 q ∧ ov = .slice a (primesTo q).length cap ∧ Hid (wr.ownsRow w.heap.size 77 1 (.slice a (primesTo q).length cap) (primesTo q).length (u64s (rootsTo q cube))) ∧ Hid (w.grownBy wr none)) (fun _ pv _ => E - (intOf pv).toNat)
  case atStart => exact ⟨2, none, 0, by omega, by omega, rfl, rfl, ⟨by rw [u64s_length, rootsTo_length]; rfl, .inl ⟨rfl, rfl⟩⟩, World.grownBy.refl _ _⟩
  case round =>
    obtain ⟨q, a, cap, hq2, hqE, rfl, rfl, HO, HG⟩ := hrel
    by_cases hlt : (primesTo q).length < count
    · have hqe : q ≠ E := by
        intro e
        subst e
        have := HC.out.1
        omega
      obtain ⟨n, hn⟩ : ∃ n, (primesTo q).length = n := ⟨_, rfl⟩
      rw [hn] at hlt HO
      rw [hn]
      have HN := Lib.hid hn
      clear hn
      have hdec : decide ((n : Int) < (count : Int)) = true := by simp; omega
      go_wp2_with fail
      go_loop [7, 8] (fun tv dv => ∃ d : Nat, 2 ≤ d ∧ d ≤ q + 1 ∧ dv = .int .u64 d ∧ tv = .bool (noDiv q d) ∧ Hid (∀ k, k < d → 2 ≤ k → k * k ≤ q)) (fun _ dv => q + 1 - (intOf dv).toNat)
      case atStart => exact ⟨2, by omega, by omega, rfl, by rfl, fun k h1 h2 => by omega⟩
      case round =>
        obtain ⟨d, hd2, hdq, rfl, rfl, HD⟩ := hrel
        have hm0 : d * d ≤ 1100000 := by
          have : d * d ≤ 1001 * 1001 := Nat.mul_le_mul (by omega) (by omega)
          omega
        have hself := Nat.le_mul_self d
        obtain ⟨m, hm⟩ : ∃ m, d * d = m := ⟨_, rfl⟩
        have hm3 : (d : Int) * (d : Int) = (m : Int) := by rw [← hm]; simp
        rw [hm] at hm0
        have HM := Lib.hid (And.intro hm hself)
        clear hm hself
        have hd0 : ((d : Int) == 0) = false := by rw [beq_eq_false_iff_ne]; omega
        by_cases hmq : m ≤ q
        · have hns := noDiv_succ q d hd2
          have hdd : d ≤ q := by have := HM.out; omega
          obtain ⟨t, ht⟩ : ∃ t : Bool, ((q : Int) % (d : Int) == 0) = t := ⟨_, rfl⟩
          have hqd : (q % d != 0) = !t := by
            rw [← ht]
            have : (q : Int) % (d : Int) = ((q % d : Nat) : Int) := by simp
            rw [this]
            generalize q % d = r
            rw [Bool.eq_iff_iff, bne_iff_ne, Bool.not_eq_true', beq_eq_false_iff_ne]
            omega
          rw [hqd] at hns
          have HNS := Lib.hid hns
          clear hns hqd
          cases t
          all_goals
            go_wp2_with fail
            go_round
          · case rel =>
              refine ⟨d + 1, by omega, by omega, by go_num, ?_, fun k h1 h2 => ?_⟩
              · rw [HNS.out]; simp
              · by_cases e : k = d
                · subst e; have := HM.out.1; omega
                · exact HD.out k (by omega) h2
          · case measure => simp [intOf]; omega
          · case rel =>
              refine ⟨d + 1, by omega, by omega, by go_num, ?_, fun k h1 h2 => ?_⟩
              · rw [HNS.out]; simp
              · by_cases e : k = d
                · subst e; have := HM.out.1; omega
                · exact HD.out k (by omega) h2
          · case measure => simp [intOf]; omega
        · have hpp := noDiv_isP q d (by have := HM.out.1; omega) HD.out
          have hrs := rootsTo_succ q cube hq2
          have hps := primesTo_succ q hq2
          rw [hpp]
          have hlen : (primesTo (q + 1)).length = n + if isP q then 1 else 0 := by
            rw [hps, List.length_append, HN.out]
            split <;> rfl
          generalize isP q = t at hrs hlen ⊢
          have HRS := Lib.hid (And.intro hrs hlen)
          clear hrs hps hpp hlen
          cases t
          · go_wp2_with fail
            go_roundw
            case rel =>
              have h1 := HRS.out.1
              have h2 := HRS.out.2
              simp at h1 h2
              refine ⟨q + 1, a, cap, by omega, by omega, by go_num, by rw [h2], ?_, HG.out⟩
              show World.ownsRow _ _ _ _ _ _ _
              rw [h1, h2]
              exact HO.out
            case measure => simp [intOf]; omega
          · go_wp2_with fail
            refine (root_any _ q cube (by omega)).mono ?_
            rintro e w2 ⟨rfl, g2⟩
            have hO2 := u64_kept HO.out g2
            have HG2 := Lib.hid (grownBy_trans HG.out g2)
            have hsz := HG2.out.size
            clear g2
            go_wp2_with (at_builtin; refine wpList_append_own _ rfl _ _ 95 rfl w.heap.size 77 i0 (.int .u64 0) 1 8 Tryd.underlying95 hi hz0 hz1 hz2 rfl (by decide) _ _ _ rfl (hO2.alloc _) ⟨w2.heap.size, 0, none⟩ 1 1 [.int .u64 (rootR q cube : Nat)] rfl rfl ?q1 ?q2 ?q3 ?q4 ?q5 ?_)
            case q1 =>
              intro j u hj
              match j, hj with
              | 0, hj => simp at hj; subst hj; simp [Addr.add]
            case q2 => intro u hu; simp at hu; subst hu; rfl
            case q3 => unfold maxLen; omega
            case q4 => omega
            case q5 => simp; omega
            intro v' w3 hown' hg3 _
            have HG3 : Hid (w.grownBy w3 none) := grownBy_below (((below_grownBy HG2.out).alloc hsz _).grown hg3 (by simp; omega) (fun k hk => (hO2.lt k hk).1))
            obtain ⟨a', cap', rfl⟩ := slice_of_own hown'
            have HO3 := Lib.hid hown'
            clear hown' hg3 hO2
            go_wp2_with fail
            go_roundw
            case rel =>
              have h1 := HRS.out.1
              have h2 := HRS.out.2
              simp at h1 h2
              refine ⟨q + 1, a', cap', by omega, by omega, by go_num, by rw [h2], ?_, HG3.out⟩
              show World.ownsRow _ _ _ _ _ _ _
              rw [h1, h2]
              have := HO3.out
              simpa [u64s] using this
            case measure => simp [intOf]; omega
    · have hqq : q = E := by
        rcases Nat.lt_or_ge q E with h | h
        · have h1 := primesTo_mono q (E - 1) (by omega)
          have h2 := HC.out.2
          omega
        · omega
      subst hqq
      have hn := HC.out.1
      rw [hn] at HO
      rw [hn]
      go_wp2_with fail
      go_ret
      exact ⟨_, rfl, HO.out, HG.out⟩
end Go.Proofs.YtmdogeampigfoaaDoor
