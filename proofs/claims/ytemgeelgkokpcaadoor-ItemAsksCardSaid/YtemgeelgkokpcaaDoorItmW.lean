/- The walk of item.write. -/
import Derived.Test.YtemgeelgkokpcaaDoorItmB
import Derived.Test.YtemgeelgkokpcaaDoorOctetPN
import Derived.Test.YtemgeelgkokpcaaDoorOctetPT
import Derived.Test.YtemgeelgkokpcaaDoorOctetB
namespace Go.Proofs.YtemgeelgkokpcaaDoor
open Go.RowKit

/-- block b is a Writer without an error that holds these bytes -/
def WrOk (w : World) (b : Nat) (L : List UInt8) : Prop := ∃ ts, WrAt w b ⟨ts, 0⟩ ∧ flat ts = L
theorem WrOk.grown {w w' : World} {b : Nat} {L : List UInt8} (h : WrOk w b L) (g : w.grownBy w' none) : WrOk w' b L := by
  obtain ⟨ts, h1, h2⟩ := h
  exact ⟨ts, h1.grown g, h2⟩
theorem wok_num {w : World} {b : Nat} {L : List UInt8} (n k : Nat) (h1 : 1 ≤ k) (h8 : k ≤ 8) (hn : n < 256 ^ k) (N : Int) (hN : (n : Int) = N) (K : Int) (hK : (k : Int) = K) (h : WrOk w b L) (hr : L.length ≤ 1000000000) :
    Calls Tryd.prog 43 #[.pointer (some ⟨b, 0, none⟩), .int .u64 N, .int .i64 K] w fun e w' => e = .returned (.pointer (some ⟨b, 0, none⟩)) ∧ WrOk w' b (L ++ be n k) ∧ w.grownBy w' (some b) := by
  subst hK
  subst hN
  obtain ⟨ts, h2, rfl⟩ := h
  rw [flat_length] at hr
  have hn8 : n ≤ 18446744073709551615 := by
    have : 256 ^ k ≤ 256 ^ 8 := Nat.pow_le_pow_right (by decide) h8
    have e8 : 256 ^ 8 = 18446744073709551616 := by decide
    omega
  refine (wnum_any n hn8 (k : Int) w (some ⟨b, 0, none⟩) (some ⟨ts, 0⟩) ⟨b, rfl, h2⟩ (fun x e => by cases e; show 8 + total ts ≤ _; omega)).mono ?_
  rintro e w' ⟨rfl, hw, g⟩
  obtain ⟨b', e', hw⟩ := hw
  cases e'
  refine ⟨rfl, ⟨str (be n k) :: ts, ?_, rfl⟩, g⟩
  have e3 : (⟨ts, 0⟩ : WSt).num n k = ⟨str (be n k) :: ts, 0⟩ := by
    unfold WSt.num
    rw [if_pos (by rw [Int.toNat_natCast]; exact ⟨by omega, by omega, hn⟩), Int.toNat_natCast]
    rfl
  have hw2 : WrAt w' b ((⟨ts, 0⟩ : WSt).num n k) := hw
  rw [e3] at hw2
  exact hw2
theorem wok_text {w : World} {b : Nat} {L : List UInt8} (s : ByteArray) (hs : s.size ≤ 4096) (h : WrOk w b L) (hr : L.length ≤ 1000000000) :
    Calls Tryd.prog 44 #[.pointer (some ⟨b, 0, none⟩), .string s] w fun e w' => e = .returned (.pointer (some ⟨b, 0, none⟩)) ∧ WrOk w' b (L ++ (be s.size 2 ++ s.data.toList)) ∧ w.grownBy w' (some b) := by
  obtain ⟨ts, h2, rfl⟩ := h
  rw [flat_length] at hr
  refine (wtext_any s (by unfold maxLen; omega) w (some ⟨b, 0, none⟩) (some ⟨ts, 0⟩) ⟨b, rfl, h2⟩ (fun x e => by cases e; show 2 + s.size + total ts ≤ _; omega)).mono ?_
  rintro e w' ⟨rfl, hw, g⟩
  obtain ⟨b', e', hw⟩ := hw
  cases e'
  have e3 : (⟨ts, 0⟩ : WSt).text s = ⟨s :: str (be s.size 2) :: ts, 0⟩ := by
    unfold WSt.text
    rw [if_pos hs]
    rfl
  have hw2 : WrAt w' b ((⟨ts, 0⟩ : WSt).text s) := hw
  rw [e3] at hw2
  exact ⟨rfl, ⟨_, hw2, by simp [flat, str]⟩, g⟩
theorem u64_lt (n : Int) : u64 n < 256 ^ 8 := by
  have : (256 : Nat) ^ 8 = 18446744073709551616 := by decide
  unfold u64
  omega
theorem u64_wrap (n : Int) : IntKind.u64.wrap n = ((u64 n : Nat) : Int) := by
  unfold u64
  simp only [IntKind.wrap, IntKind.bits, IntKind.signed, IntKind.min, IntKind.max]
  simp
  omega
theorem be_one (n : Nat) (h : n < 256) : be n 1 = [UInt8.ofNat n] := by
  simp [be, Nat.mod_eq_of_lt h]
set_option maxRecDepth 100000 in
set_option maxHeartbeats 3200000 in
theorem write_any : ∀ (m : Nat) (t : Tr), cntT t ≤ m → okT t → ∀ (P : Nat → Prop) (v : Value) (w : World) (b : Nat) (L : List UInt8), ItemAt w P v t → ¬ P b → WrOk w b L → L.length + (encT t).length ≤ 1000000000 →
    Calls Tryd.prog 25 #[.pointer (some ⟨b, 0, none⟩), v] w fun e w' => e = .returned (.int .i64 (errT t)) ∧ (errT t = 0 → WrOk w' b (L ++ encT t)) ∧ w.grownBy w' (some b)
  | 0, t, h, _, _, _, _, _, _, _, _, _, _ => by
    have : 1 ≤ cntT t := by cases t <;> rw [cntT] <;> omega
    omega
  | m + 1, .num n, _, hok, P, v, w, b, L, hv, hPb, hW, hl => by
    rw [ItemAt] at hv
    subst hv
    rw [okT] at hok
    have hc := u64_wrap n
    have HN1 := Lib.hid (wok_num 1 1 (by decide) (by decide) (by decide) 1 rfl 1 rfl hW (by omega))
    have HN2 := Lib.hid (fun w' (k : WrOk w' b (L ++ be 1 1)) => wok_num (u64 n) 8 (by decide) (by decide) (u64_lt n) _ rfl 8 rfl k (by rw [List.length_append, be_length]; rw [encT, List.length_cons, be_length] at hl; omega))
    rw [errT, encT]
    generalize u64 n = U at *
    have e1 : L ++ be 1 1 ++ be U 8 = L ++ 1 :: be U 8 := by rw [be_one 1 (by decide), List.append_assoc]; rfl
    have HE := Lib.hid e1
    clear hW hl e1
    unfold vNum
    go_enter Tryd.func25, Tryd.ntmps25
    go_wp2_with fail
    refine HN1.out.mono ?_
    rintro e w1 ⟨rfl, h1, g1⟩
    have H1 := Lib.hid (And.intro h1 g1)
    clear h1 g1
    go_wp2_with fail
    refine (HN2.out _ H1.out.1).mono ?_
    rintro e w2 ⟨rfl, h2, g2⟩
    have H2 := Lib.hid (And.intro h2 (grownBy_trans H1.out.2 g2))
    clear h2 g2
    go_wp2_with fail
    go_ret
    exact ⟨rfl, fun _ => by rw [← HE.out]; exact H2.out.1, H2.out.2⟩
  | m + 1, .text s, _, hok, P, v, w, b, L, hv, hPb, hW, hl => by
    rw [ItemAt] at hv
    subst hv
    rw [okT] at hok
    rw [errT, encT]
    unfold vText
    by_cases hs : 4096 < s.size
    · have q1 : (4096 : Int) < (s.size : Int) := by omega
      rw [if_pos hs]
      clear hW hl hs
      go_enter Tryd.func25, Tryd.ntmps25
      go_wp2_with fail
      go_ret
      exact ⟨rfl, fun h => by omega, World.grownBy.refl _ _⟩
    · have q1 : ¬ (4096 : Int) < (s.size : Int) := by omega
      rw [if_neg hs]
      have hl2 : L.length + 1 ≤ 1000000000 := by
        have e : (encT (.text s)).length = 2 + s.data.toList.length + 1 := by rw [encT, List.length_cons, List.length_append, be_length]
        omega
      have HN1 := Lib.hid (wok_num 2 1 (by decide) (by decide) (by decide) 2 rfl 1 rfl hW (by omega))
      have HN2 := Lib.hid (fun w' (k : WrOk w' b (L ++ be 2 1)) => wok_text s (by omega) k (by rw [List.length_append, be_length]; omega))
      have e1 : L ++ be 2 1 ++ (be s.size 2 ++ s.data.toList) = L ++ 2 :: (be s.size 2 ++ s.data.toList) := by rw [be_one 2 (by decide), List.append_assoc]; rfl
      have HE := Lib.hid e1
      clear hW hl hl2 e1 hs
      go_enter Tryd.func25, Tryd.ntmps25
      go_wp2_with fail
      refine HN1.out.mono ?_
      rintro e w1 ⟨rfl, h1, g1⟩
      have H1 := Lib.hid (And.intro h1 g1)
      clear h1 g1
      go_wp2_with fail
      refine (HN2.out _ H1.out.1).mono ?_
      rintro e w2 ⟨rfl, h2, g2⟩
      have H2 := Lib.hid (And.intro h2 (grownBy_trans H1.out.2 g2))
      clear h2 g2
      go_wp2_with fail
      go_ret
      exact ⟨rfl, fun _ => by rw [← HE.out]; exact H2.out.1, H2.out.2⟩
  | m + 1, .list l, hm, hok, P, v, w, b, L, hv, hPb, hW, hl => by
    rw [ItemAt] at hv
    obtain ⟨lb, a, c, rfl, hPl, hlb, hit⟩ := hv
    rw [okT] at hok
    rw [cntT] at hm
    rw [errT]
    have hne : lb ≠ b := fun e => hPb (by rw [← e]; exact hPl)
    obtain ⟨y0, y1⟩ := cells2I hlb
    unfold vList
    by_cases h256 : 256 < l.length
    · have q1 : (256 : Int) < (l.length : Int) := by omega
      rw [if_pos h256]
      clear hW hl h256 hit hlb
      go_enter Tryd.func25, Tryd.ntmps25
      go_wp2_with fail
      go_ret
      exact ⟨rfl, fun h => by omega, World.grownBy.refl _ _⟩
    · have q1 : ¬ (256 : Int) < (l.length : Int) := by omega
      rw [if_neg h256, encT]
      have hle : L.length + (3 + (encTs l).length) ≤ 1000000000 := by rw [encT, List.length_cons, List.length_append, be_length] at hl; omega
      have hn16 : l.length < 256 ^ 2 := by
        have : (256 : Nat) ^ 2 = 65536 := by decide
        omega
      have HN1 := Lib.hid (fun w' (k : w.grownBy w' none) => wok_num 3 1 (by decide) (by decide) (by decide) 3 rfl 1 rfl (hW.grown k) (by omega))
      have HN2 := Lib.hid (fun w' (k : WrOk w' b (L ++ be 3 1)) => wok_num l.length 2 (by decide) (by decide) hn16 _ rfl 2 rfl k (by rw [List.length_append, be_length]; omega))
      have e1 : L ++ be 3 1 ++ be l.length 2 = L ++ (3 :: be l.length 2) := by rw [be_one 3 (by decide), List.append_assoc]; rfl
      have HIT : Hid (∀ w' k t, w.grownBy w' (some b) → l[k]? = some t → ∃ g v, a = some ⟨g, 0, none⟩ ∧ w'.cell? ⟨g, k, none⟩ = some v ∧ ItemAt w' P v t) := Lib.hid (fun w' k t gk ht => by
        have hk := (List.getElem?_eq_some_iff.1 ht).1
        obtain ⟨g, e, hPg, hI⟩ := hit (by omega)
        obtain ⟨v, hv, hvt⟩ := (ItemsAt.keep (w' := w') (fun i o p e => gk.heap e (fun q => hPb (by rw [Option.some.inj q]; exact p))) (fun _ p _ => p) g 0 l hPg hI).at_ ht
        rw [Nat.zero_add] at hv
        exact ⟨g, v, e, hv, hvt⟩)
      have HCK : Hid (∀ w', w.grownBy w' (some b) → w'.cell? ⟨lb, 0, none⟩ = some (.slice a l.length c)) := Lib.hid (fun w' k => k.cell y0 (fun q => hne (by simpa using q)))
      have HO := Lib.hid (And.intro hok.2 (And.intro hm hle))
      have HE := Lib.hid e1
      obtain ⟨BL, hBL⟩ : ∃ BL, be l.length 2 = BL := ⟨_, rfl⟩
      rw [hBL] at HE HN2 ⊢
      have HBL : Hid (BL.length = 2) := Lib.hid (by rw [← hBL, be_length])
      have hN : l.length ≤ 256 := by omega
      have c16 : IntKind.u64.wrap (l.length : Int) = (l.length : Int) := wrap_u64 l.length (by omega)
      have HPB := Lib.hid hPb
      clear hit hlb hne hW hl h256 hok hm hle e1 hBL hn16 y1
      go_enter Tryd.func25, Tryd.ntmps25
      go_upto_region 16 with fail
      have gd : w.grownBy w.drew none := grownBy_drew (World.grownBy.refl w none)
      have ck := HCK.out w.drew (grownBy_any gd _)
      refine wp_region_held_drew (S := (fun w' => w'.cell? ⟨lb, 0, none⟩ = some (.slice a l.length c))) (by kernel_rfl) ?hswr (fun hHeld => ?rgwr)
      case hswr => exact ck
      case rgwr =>
        refine wpAnyH_take (i := 0) (v := ?vwr_0) rfl (by kernel_rfl) (by kernel_rfl) (by kernel_rfl) (fun _ _ _ h => h) (Or.inl ⟨by kernel_rfl, ?hwr_0⟩) (by assumption) ?rwr_0
        case hwr_0 => (intro w0 hSw; (try dsimp only at hSw); go_simp; (try with_reducible rfl))
        try simp only [Act.put, List.setIfInBounds_toArray, List.set_cons_zero, List.set_cons_succ]
        refine wpAnyH_take (i := 2) (v := ?vwr_1) rfl (by kernel_rfl) (by kernel_rfl) (by kernel_rfl) (fun _ _ _ h => h) (Or.inl ⟨by kernel_rfl, ?hwr_1⟩) (by assumption) ?rwr_1
        case hwr_1 => (intro w0 hSw; (try dsimp only at hSw); go_simp; (try with_reducible rfl))
        try simp only [Act.put, List.setIfInBounds_toArray, List.set_cons_zero, List.set_cons_succ]
        refine wpAnyH_take (i := 3) (v := ?vwr_2) rfl (by kernel_rfl) (by kernel_rfl) (by kernel_rfl) (fun _ _ _ h => h) (Or.inl ⟨by kernel_rfl, ?hwr_2⟩) (by assumption) ?rwr_2
        case hwr_2 => (intro w0 hSw; (try dsimp only at hSw); go_simp; (try with_reducible rfl))
        try simp only [Act.put, List.setIfInBounds_toArray, List.set_cons_zero, List.set_cons_succ]
        refine wpAnyH_take (i := 4) (v := ?vwr_3) rfl (by kernel_rfl) (by kernel_rfl) (by kernel_rfl) (fun _ _ _ h => h) (Or.inl ⟨by kernel_rfl, ?hwr_3⟩) (by assumption) ?rwr_3
        case hwr_3 => (intro w0 hSw; (try dsimp only at hSw); go_simp; (try with_reducible rfl))
        try simp only [Act.put, List.setIfInBounds_toArray, List.set_cons_zero, List.set_cons_succ]
        refine wpAnyH_take (i := 5) (v := ?vwr_4) rfl (by kernel_rfl) (by kernel_rfl) (by kernel_rfl) (fun _ _ _ h => h) (Or.inl ⟨by kernel_rfl, ?hwr_4⟩) (by assumption) ?rwr_4
        case hwr_4 => (intro w0 hSw; (try dsimp only at hSw); go_simp; (try with_reducible rfl))
        try simp only [Act.put, List.setIfInBounds_toArray, List.set_cons_zero, List.set_cons_succ]
        refine wpAnyH_take (i := 6) (v := ?vwr_5) rfl (by kernel_rfl) (by kernel_rfl) (by kernel_rfl) (fun _ _ _ h => h) (Or.inl ⟨by kernel_rfl, ?hwr_5⟩) (by assumption) ?rwr_5
        case hwr_5 => (intro w0 hSw; (try dsimp only at hSw); go_simp; (try with_reducible rfl))
        try simp only [Act.put, List.setIfInBounds_toArray, List.set_cons_zero, List.set_cons_succ]
        refine wpAnyH_take (i := 7) (v := ?vwr_6) rfl (by kernel_rfl) (by kernel_rfl) (by kernel_rfl) (fun _ _ _ h => h) (Or.inl ⟨by kernel_rfl, ?hwr_6⟩) (by assumption) ?rwr_6
        case hwr_6 => (intro w0 hSw; (try dsimp only at hSw); go_simp; (try with_reducible rfl))
        try simp only [Act.put, List.setIfInBounds_toArray, List.set_cons_zero, List.set_cons_succ]
        refine wpAnyH_ready (rs := [1]) (by kernel_rfl) (by simp) ?_
        refine AllReadyH.cons rfl (fun K hK => ?awr_8) ?bwr_8
        case awr_8 =>
          ((go_simp; go_at_call 43; (with_reducible refine (HN1.out _ gd).mono ?_); rintro e w1 ⟨rfl, h1, g1⟩; have g1' := grownBy_trans (grownBy_any gd (some b)) g1; have ck := HCK.out _ g1'))
          refine hK.out _ _ ?swr_8 (fun hHeld => ?twr_8)
          case swr_8 => exact ck
          case twr_8 =>
            clear hK K
            try simp only [Act.put, List.setIfInBounds_toArray, List.set_cons_zero, List.set_cons_succ]
            refine wpAnyH_ready (rs := [8]) (by kernel_rfl) (by simp) ?_
            refine AllReadyH.cons rfl (fun K hK => ?awr_9) ?bwr_9
            case awr_9 =>
              ((go_simp; go_at_call 43; (with_reducible refine (HN2.out _ h1).mono ?_); rintro e w2 ⟨rfl, h2, g2⟩; have g2' := grownBy_trans g1' g2; have ck := HCK.out _ g2'))
              refine hK.out _ _ ?swr_9 (fun hHeld => ?twr_9)
              case swr_9 => exact ck
              case twr_9 =>
                clear hK K
                try simp only [Act.put, List.setIfInBounds_toArray, List.set_cons_zero, List.set_cons_succ]
                refine wpAnyH_done (by kernel_rfl) ?_ _
                try dsimp only
                have H2 : Hid (WrOk w2 b (L ++ (3 :: BL)) ∧ w.grownBy w2 (some b)) := Lib.hid ⟨by rw [← HE.out]; exact h2, g2'⟩
                clear h1 h2 g1 g2 g1' gd g2' HN1 HN2
                go_wp2_with fail
                go_loopw [9, 10, 54] (fun _ _ kv wr => ∃ k : Nat, k ≤ l.length ∧ kv = .int .i64 k ∧ Hid (errTs (l.take k) = 0) ∧ Hid (WrOk wr b (L ++ (3 :: BL) ++ encTs (l.take k)) ∧ w.grownBy wr (some b))) (fun _ _ kv _ => l.length - (intOf kv).toNat)
                case atStart => exact ⟨0, Nat.zero_le _, rfl, Lib.hid rfl, Lib.hid ⟨by rw [List.take_zero, encTs, List.append_nil]; exact H2.out.1, H2.out.2⟩⟩
                case round =>
                  clear H2
                  obtain ⟨k, hk, rfl, HE0, HW⟩ := hrel
                  by_cases hlt : k < l.length
                  · have d1 : (k : Int) < (l.length : Int) := by omega
                    have d0 : (0 : Int) ≤ (k : Int) := by omega
                    obtain ⟨t, ht⟩ : ∃ t, l[k]? = some t := ⟨_, List.getElem?_eq_getElem hlt⟩
                    obtain ⟨g, u, rfl, c0, hvt⟩ := HIT.out wr k t HW.out.2 ht
                    have hmem : t ∈ l := List.mem_of_getElem? ht
                    have hct := cntTs_mem hmem
                    have HRE := Lib.hid (write_any m t (by have := HO.out.2.1; omega) (okTs_mem HO.out.1 hmem) P u wr b _ hvt HPB.out HW.out.1 (by
                      have h1 := HO.out.2.2
                      have h2 := encTs_take_len ht
                      have h3 : BL.length = 2 := HBL.out
                      simp only [List.length_append, List.length_cons, h3]
                      omega))
                    have HT := Lib.hid ht
                    obtain ⟨ER, hER⟩ : ∃ ER, errT t = ER := ⟨_, rfl⟩
                    rw [hER] at HRE
                    have HER := Lib.hid hER
                    clear hct hmem hvt ht hER
                    by_cases he : ER = 0
                    · have q2 : (ER != 0) = false := by simp [he]
                      go_wp2_with fail
                      refine HRE.out.mono ?_
                      rintro e w3 ⟨rfl, h3, g3⟩
                      have H3 := Lib.hid (And.intro (h3 he) (grownBy_trans HW.out.2 g3))
                      clear h3 g3
                      go_wp2_with fail
                      go_roundw
                      case rel => exact ⟨k + 1, by omega, by go_num, Lib.hid (by rw [errTs_take HE0.out HT.out, HER.out]; exact he), Lib.hid ⟨by rw [encTs_take HT.out, ← List.append_assoc]; exact H3.out.1, H3.out.2⟩⟩
                      case measure => simp [intOf] <;> omega
                    · have q2 : (ER != 0) = true := by simp [he]
                      go_wp2_with fail
                      refine HRE.out.mono ?_
                      rintro e w3 ⟨rfl, h3, g3⟩
                      have H3 := Lib.hid (grownBy_trans HW.out.2 g3)
                      have HFE := Lib.hid (errTs_at HE0.out HT.out (by rw [HER.out]; exact he))
                      have HNE := Lib.hid he
                      clear h3 g3 he
                      go_wp2_with fail
                      go_ret
                      exact ⟨by rw [HFE.out, HER.out]; rfl, fun h => absurd h (by rw [HFE.out, HER.out]; exact HNE.out), H3.out⟩
                  · have hkn : k = l.length := by omega
                    have d1 : ¬ (k : Int) < (l.length : Int) := by omega
                    have hfin : errTs l = 0 := by have := HE0.out; rwa [hkn, List.take_length] at this
                    have HF := Lib.hid (And.intro hfin hkn)
                    clear hfin hkn
                    go_wp2_with fail
                    go_ret
                    refine ⟨by rw [HF.out.1]; rfl, fun _ => ?_, HW.out.2⟩
                    have := HW.out.1
                    rw [HF.out.2, List.take_length, List.append_assoc] at this
                    exact this
            case bwr_9 =>
              exact AllReadyH.nil
        case bwr_8 =>
          exact AllReadyH.nil
end Go.Proofs.YtemgeelgkokpcaaDoor
