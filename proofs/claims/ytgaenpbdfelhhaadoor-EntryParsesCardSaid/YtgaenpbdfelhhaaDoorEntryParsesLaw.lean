/- The walk of the law EntryParses. -/
import Derived.Test.YtgaenpbdfelhhaaDoorEntK
namespace Go.Proofs.YtgaenpbdfelhhaaDoor
open Go.RowKit
attribute [local irreducible] shaL

def cut60 (s : ByteArray) : ByteArray := s.extract 0 (min s.size 60)
theorem cut60_size (s : ByteArray) : (cut60 s).size ≤ 60 := by
  unfold cut60
  rw [ByteArray.size_extract]
  omega
theorem cut60_eq (s : ByteArray) : s.extract 0 (min (s.size : Int) 60).toNat = cut60 s := by
  unfold cut60
  congr 1
  omega
def zeroE : EntS := ⟨0, ⟨#[]⟩, ⟨#[]⟩, 0, ⟨#[]⟩⟩
theorem zeroE_small : zeroE.small := ⟨by decide, by decide, by decide, by decide⟩
theorem zeroE_err : zeroE.err = 13 ∧ zeroE.enc = ⟨#[]⟩ := EntS.not_ver (.inl (by decide))
/-- the four ways of bytes -/
theorem decE_ways (s : ByteArray) : (s.size < 53 ∧ (decE s).err = 3 ∧ (decE s).ent = zeroE) ∨ (53 < s.size ∧ (decE s).err = 2 ∧ (decE s).ent = zeroE) ∨
    (s.size = 53 ∧ 6 < val ((s.data.toList.drop 36).take 1) ∧ (decE s).err = 4 ∧ (decE s).ent = zeroE) ∨
    (s.size = 53 ∧ ¬ 6 < val ((s.data.toList.drop 36).take 1) ∧ val (s.data.toList.take 4) = 0 ∧ (decE s).err = 13 ∧ (decE s).ent = zeroE) ∨
    (s.size = 53 ∧ ¬ 6 < val ((s.data.toList.drop 36).take 1) ∧ val (s.data.toList.take 4) ≠ 0 ∧ (decE s).err = 0 ∧ (decE s).ent.err = 0 ∧ (decE s).ent.enc = s) := by
  have hs : str s.data.toList = s := text_str s
  have hl : s.data.toList.length = s.size := Array.length_toList
  have hz : ∀ e : Int, (decE s).err = e → e ≠ 0 → (decE s).ent = zeroE := by
    intro e h1 h2
    unfold DecE.ent
    rw [h1, if_neg h2]
    rfl
  rcases Nat.lt_trichotomy s.size 53 with h | h | h
  · have he := decE_less s.data.toList (by omega)
    rw [hs] at he
    exact .inl ⟨h, he, hz _ he (by decide)⟩
  · have he := decE_right s.data.toList (by omega)
    rw [hs] at he
    by_cases h6 : 6 < val ((s.data.toList.drop 36).take 1)
    · rw [if_pos h6] at he
      exact .inr (.inr (.inl ⟨h, h6, he, hz _ he (by decide)⟩))
    · rw [if_neg h6] at he
      by_cases h1 : val (s.data.toList.take 4) < 1
      · rw [if_pos h1] at he
        exact .inr (.inr (.inr (.inl ⟨h, h6, by omega, he, hz _ he (by decide)⟩)))
      · rw [if_neg h1] at he
        have hb := decE_back s.data.toList (by omega) (by rw [hs]; exact he)
        rw [hs] at hb
        refine .inr (.inr (.inr (.inr ⟨h, h6, by omega, he, hb.1, ?_⟩)))
        unfold EntS.enc
        rw [if_pos hb.1, hb.2, hs]
  · have he := decE_more s.data.toList (by omega)
    rw [hs] at he
    exact .inr (.inl ⟨h, he, hz _ he (by decide)⟩)
theorem at36 (s : ByteArray) (h : 36 < s.size) : val ((s.data.toList.drop 36).take 1) = (s[36]).toNat := by
  have hl : s.data.toList.length = s.size := Array.length_toList
  rw [List.drop_eq_getElem_cons (by omega), List.take_succ_cons, List.take_zero]
  show 256 * 0 + _ = _
  rw [Nat.mul_zero, Nat.zero_add]
  rfl
theorem four_noughts (s : ByteArray) (h : s.size = 53) : (s.extract 0 4).toList = s.data.toList.take 4 ∧ (val (s.data.toList.take 4) = 0 ↔ s.data.toList.take 4 = [0, 0, 0, 0]) := by
  have hl : s.data.toList.length = s.size := Array.length_toList
  refine ⟨?_, ?_⟩
  · rw [ByteArray.toList_eq]
    simp
  · rw [val_pos, List.length_take, Nat.min_eq_left (by omega)]
    rfl
theorem small_of_zero (x : EntS) (h : x.err = 0) : x.small := by
  obtain ⟨⟨h1, h2⟩, ⟨_, h4, h5⟩, h6⟩ := EntS.fit h
  exact ⟨by omega, by omega, by omega, by omega⟩
theorem drew_heap {w : World} {b : Nat} {o : Obj} (h : w.heap[b]? = some o) : w.drew.heap[b]? = some o := h
set_option maxRecDepth 100000 in
set_option maxHeartbeats 1600000 in
theorem entryParses_walk (s0 : ByteArray) (hs0 : s0.size ≤ maxLen) (w : World) (hr : ShaReady w) :
    Calls Tryd.prog 5 #[.string s0] w fun e w' => e = .returned (.bool true) ∧ w.grownBy w' none := by
  have HSP := Lib.hid (ent_speaks w hr)
  have HR := Lib.hid hr
  unfold maxLen at hs0
  have HZE := Lib.hid (fun w' => eencode_any zeroE zeroE_small w')
  have hze := zeroE_err
  rw [hze.1, hze.2] at HZE
  unfold EntS.val zeroE at HZE
  have HZE2 : Hid (∀ w' : World, Calls Tryd.prog 22 #[.agg #[.int .u64 0, .string ⟨#[]⟩, .string ⟨#[]⟩, .int .i64 0, .string ⟨#[]⟩]] w' fun e w'' => e = .returned (.tuple #[.string ⟨#[]⟩, .int .i64 13]) ∧ w'.grownBy w'' none) := HZE
  clear HZE hze hr
  go_enter Tryd.func5, Tryd.ntmps5
  go_wp2_with fail
  refine HSP.out.mono ?_
  rintro e w1 ⟨rfl, g1⟩
  have HG1 := Lib.hid g1
  clear g1 HSP
  go_upto_region 3 with (fail)
  go_cut [0] (fun sv wx => ∃ s : ByteArray, sv = .string s ∧ s.size ≤ 60 ∧ Hid (w1 = wx))
  case first =>
    by_cases hz : s0.size ≤ 60
    · have hz2 : (s0.size : Int) ≤ 60 := by omega
      go_wp2_with fail
      go_meet
      case rel => exact ⟨_, rfl, by first | exact hz | (rw [ByteArray.size_extract]; omega), rfl⟩
    · have hz2 : ¬ (s0.size : Int) ≤ 60 := by omega
      have hz3 : (60 : Int) < (s0.size : Int) := by omega
      have hz4 : (60 : Int) ≤ (s0.size : Int) := by omega
      go_wp2_with fail
      go_meet
      case rel => exact ⟨_, rfl, by rw [ByteArray.size_extract]; omega, rfl⟩
  obtain ⟨s, rfl, hT, HWE⟩ := hcut
  have hwe := HWE.out
  subst hwe
  have HD := Lib.hid (fun w' => edecode_any s (by omega) w')
  have hways := decE_ways s
  obtain ⟨D, hD⟩ : ∃ D, decE s = D := ⟨_, rfl⟩
  rw [hD] at HD hways
  clear hD HWE hs0
  go_wp2_with fail
  refine (HD.out _).mono ?_
  rintro e w2 ⟨rfl, g2⟩
  have HG2 := Lib.hid (grownBy_trans HG1.out g2)
  clear g2 HD
  rcases hways with ⟨h1, h2, h3⟩ | ⟨h1, h2, h3⟩ | ⟨h1, h4, h2, h3⟩ | ⟨h1, h4, h5, h2, h3⟩ | ⟨h1, h4, h5, h2, h3, h6⟩
  · rw [h2, h3]
    have q1 : (s.size : Int) < 53 := by omega
    clear h1 h2 h3
    unfold EntS.val zeroE
    go_wp2_with fail
    refine (HZE2.out _).mono ?_
    rintro e w3 ⟨rfl, g3⟩
    obtain ⟨x0, x1, x2, x3, x4⟩ := cells5 (g3.heap (heap_alloc_at w2 (.cells #[.int .u64 0, .string ⟨#[]⟩, .string ⟨#[]⟩, .int .i64 0, .string ⟨#[]⟩] 52) _ rfl) (by simp))
    have HG3 := Lib.hid (grownBy_trans (grownBy_alloc' HG2.out _) g3)
    clear g3
    go_wp2_with fail
    go_ret
    exact ⟨rfl, HG3.out⟩
  · rw [h2, h3]
    have q1 : ¬ (s.size : Int) < 53 := by omega
    have q2 : (s.size : Int) > 53 := by omega
    clear h1 h2 h3
    unfold EntS.val zeroE
    go_wp2_with fail
    refine (HZE2.out _).mono ?_
    rintro e w3 ⟨rfl, g3⟩
    obtain ⟨x0, x1, x2, x3, x4⟩ := cells5 (g3.heap (heap_alloc_at w2 (.cells #[.int .u64 0, .string ⟨#[]⟩, .string ⟨#[]⟩, .int .i64 0, .string ⟨#[]⟩] 52) _ rfl) (by simp))
    have HG3 := Lib.hid (grownBy_trans (grownBy_alloc' HG2.out _) g3)
    clear g3
    go_wp2_with fail
    go_ret
    exact ⟨rfl, HG3.out⟩
  · rw [h2, h3]
    have q1 : ¬ (s.size : Int) < 53 := by omega
    have q2 : ¬ (s.size : Int) > 53 := by omega
    have q3 : (36 : Int) < (s.size : Int) := by omega
    have q4 : 36 < s.size := by omega
    rw [at36 s q4] at h4
    have hc := (s[36]).toNat_lt
    have q5 : ((s[36]).toNat : Int) > 6 := by omega
    clear h1 h2 h3 h4
    unfold EntS.val zeroE
    go_wp2_with fail
    refine (HZE2.out _).mono ?_
    rintro e w3 ⟨rfl, g3⟩
    obtain ⟨x0, x1, x2, x3, x4⟩ := cells5 (g3.heap (heap_alloc_at w2 (.cells #[.int .u64 0, .string ⟨#[]⟩, .string ⟨#[]⟩, .int .i64 0, .string ⟨#[]⟩] 52) _ rfl) (by simp))
    have HG3 := Lib.hid (grownBy_trans (grownBy_alloc' HG2.out _) g3)
    clear g3
    go_wp2_with fail
    go_ret
    exact ⟨rfl, HG3.out⟩
  · rw [h2, h3]
    have q1 : ¬ (s.size : Int) < 53 := by omega
    have q2 : ¬ (s.size : Int) > 53 := by omega
    have q3 : (36 : Int) < (s.size : Int) := by omega
    have q4 : 36 < s.size := by omega
    rw [at36 s q4] at h4
    have hc := (s[36]).toNat_lt
    have hf := four_noughts s h1
    have q6 : (4 : Int) ≤ (s.size : Int) := by omega
    have q5 : ¬ ((s[36]).toNat : Int) > 6 := by omega
    have q7 : ((s.extract 0 4).toList == ((⟨#[0, 0, 0, 0, 0, 0, 0, 0, 0, 0, 0, 0, 0, 0, 0, 0]⟩ : ByteArray).extract 0 4).toList) = true := by rw [hf.1, hf.2.1 h5, ByteArray.toList_eq]; rfl
    clear h1 h2 h3 h4 h5 hf
    unfold EntS.val zeroE
    go_wp2_with fail
    go_region
    go_wp2_with fail
    refine (HZE2.out _).mono ?_
    rintro e w3 ⟨rfl, g3⟩
    obtain ⟨x0, x1, x2, x3, x4⟩ := cells5 (g3.heap (drew_heap (heap_alloc_at w2 (.cells #[.int .u64 0, .string ⟨#[]⟩, .string ⟨#[]⟩, .int .i64 0, .string ⟨#[]⟩] 52) _ rfl)) (by simp))
    have HG3 := Lib.hid (grownBy_trans (grownBy_drew (grownBy_alloc' HG2.out _)) g3)
    clear g3
    go_wp2_with fail
    go_ret
    exact ⟨rfl, HG3.out⟩
  · rw [h2]
    have q1 : ¬ (s.size : Int) < 53 := by omega
    have q2 : ¬ (s.size : Int) > 53 := by omega
    have q3 : (36 : Int) < (s.size : Int) := by omega
    have q4 : 36 < s.size := by omega
    rw [at36 s q4] at h4
    have hc := (s[36]).toNat_lt
    have hf := four_noughts s h1
    have q6 : (4 : Int) ≤ (s.size : Int) := by omega
    have q5 : ¬ ((s[36]).toNat : Int) > 6 := by omega
    have q7 : ((s.extract 0 4).toList == ((⟨#[0, 0, 0, 0, 0, 0, 0, 0, 0, 0, 0, 0, 0, 0, 0, 0]⟩ : ByteArray).extract 0 4).toList) = false := by rw [hf.1, ByteArray.toList_eq, beq_eq_false_iff_ne]; exact fun q => h5 (hf.2.2 q)
    have hE := fun w' => eencode_any D.ent (small_of_zero _ h3) w'
    rw [h3, h6] at hE
    obtain ⟨x, hx⟩ : ∃ x, D.ent = x := ⟨_, rfl⟩
    rw [hx] at hE ⊢
    obtain ⟨v, o, r, h, p⟩ := x
    unfold EntS.val at hE ⊢
    simp only at hE ⊢
    have HE := Lib.hid hE
    have hself : (s.toList == s.toList) = true := by simp
    clear h1 h2 h3 h4 h5 h6 hf hx hE
    go_wp2_with fail
    go_region
    go_wp2_with fail
    refine (HE.out _).mono ?_
    rintro e w3 ⟨rfl, g3⟩
    obtain ⟨x0, x1, x2, x3, x4⟩ := cells5 (g3.heap (drew_heap (heap_alloc_at w2 (.cells #[.int .u64 v, .string o, .string r, .int .i64 h, .string p] 52) _ rfl)) (by simp))
    have HG3 := Lib.hid (grownBy_trans (grownBy_drew (grownBy_alloc' HG2.out _)) g3)
    clear g3
    go_wp2_with fail
    go_ret
    exact ⟨rfl, HG3.out⟩
theorem entryParses_below (s0 : ByteArray) (hs0 : s0.size ≤ maxLen) (w : World) (hr : ShaReady w) :
    Calls Tryd.prog 5 #[.string s0] w fun e w' => e = .returned (.bool true) ∧ Below w.heap.size w w' :=
  (entryParses_walk s0 hs0 w hr).mono fun _ _ h => ⟨h.1, below_grownBy h.2⟩
end Go.Proofs.YtgaenpbdfelhhaaDoor
