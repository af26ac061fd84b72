/- The walk of a shower's quote. -/
import Derived.Test.YtemgeelgkokpcaaDoorItmS
import Derived.Deep.RegionWith
import Derived.Laws.BitsAllLaws
namespace Go.Proofs.YtemgeelgkokpcaaDoor
open Go.RowKit

theorem hexArrI (n : Nat) (h : n < (⟨#[48, 49, 50, 51, 52, 53, 54, 55, 56, 57, 97, 98, 99, 100, 101, 102]⟩ : ByteArray).size) : (⟨#[48, 49, 50, 51, 52, 53, 54, 55, 56, 57, 97, 98, 99, 100, 101, 102]⟩ : ByteArray)[n] = hexI n := by
  have h' : n < 16 := h
  obtain rfl | rfl | rfl | rfl | rfl | rfl | rfl | rfl | rfl | rfl | rfl | rfl | rfl | rfl | rfl | rfl : n = 0 ∨ n = 1 ∨ n = 2 ∨ n = 3 ∨ n = 4 ∨ n = 5 ∨ n = 6 ∨ n = 7 ∨ n = 8 ∨ n = 9 ∨ n = 10 ∨ n = 11 ∨ n = 12 ∨ n = 13 ∨ n = 14 ∨ n = 15 := by omega
  all_goals rfl
theorem hex_lowI (c : Nat) (h : c < 256) : bits .and .u8 (c : Int) 15 = ((c % 16 : Nat) : Int) := by
  rw [show (15 : Int) = ((15 : Nat) : Int) from rfl, u8_and_nat _ _ h (by omega)]
  congr 1
  exact Nat.and_two_pow_sub_one_eq_mod c 4
theorem quote_take (s : ByteArray) (k : Nat) (h : k < s.size) : (s.data.toList.take (k + 1)).flatMap quoteB = (s.data.toList.take k).flatMap quoteB ++ quoteB s[k] := by
  rw [List.take_succ_eq_append_getElem (by simpa using h), List.flatMap_append, List.flatMap_singleton]
  rfl
theorem quoteB_len (c : UInt8) : (quoteB c).length ≤ 4 := by
  unfold quoteB
  split <;> simp
theorem quotes_len (l : List UInt8) : (l.flatMap quoteB).length ≤ 4 * l.length := by
  induction l with
  | nil => simp
  | cons c r ih =>
    rw [List.flatMap_cons, List.length_append, List.length_cons]
    have := quoteB_len c
    omega
set_option maxRecDepth 100000 in
set_option maxHeartbeats 3200000 in
theorem quote_any (s : ByteArray) (B sb : Nat) (out : List UInt8) (fr : List FrS) (w : World) (h : ShAt B sb out fr w) (hs : s.size ≤ 1000000) (hl : out.length ≤ 500000000) :
    Calls Tryd.prog 51 #[.pointer (some ⟨sb, 0, none⟩), .string s] w fun e w' => e = .returned (.tuple #[]) ∧ ShAt B sb (out ++ quoteL s.data.toList) fr w' ∧ Below B w w' := by
  have HB1 := Lib.hid (sh_byte 34 34 rfl h (by omega))
  clear h
  go_enter Tryd.func51, Tryd.ntmps51
  go_wp2_with fail
  refine HB1.out.mono ?_
  rintro e w1 ⟨rfl, h1, b1⟩
  have H1 := Lib.hid (And.intro h1 b1)
  clear h1 b1
  go_wp2_with fail
  go_loopw [4, 11] (fun _ kv wr => ∃ k : Nat, k ≤ s.size ∧ kv = .int .i64 k ∧ Hid (ShAt B sb (out ++ [34] ++ (s.data.toList.take k).flatMap quoteB) fr wr ∧ Below B w wr)) (fun _ kv _ => s.size - (intOf kv).toNat)
  case atStart => exact ⟨0, Nat.zero_le _, rfl, Lib.hid ⟨by rw [List.take_zero, List.flatMap_nil, List.append_nil]; exact H1.out.1, H1.out.2⟩⟩
  case round =>
    clear H1 HB1
    obtain ⟨k, hk, rfl, HK⟩ := hrel
    have hlen : (out ++ [34] ++ (s.data.toList.take k).flatMap quoteB).length ≤ 500000001 + 4 * 1000000 := by
      have h1 := quotes_len (s.data.toList.take k)
      have h2 : (s.data.toList.take k).length ≤ k := by rw [List.length_take]; omega
      rw [List.length_append, List.length_append]
      simp only [List.length_singleton]
      omega
    obtain ⟨O, hO⟩ : ∃ O, out ++ [34] ++ (s.data.toList.take k).flatMap quoteB = O := ⟨_, rfl⟩
    rw [hO] at HK hlen
    by_cases hlt : k < s.size
    · have b1 : (0 : Int) ≤ (k : Int) := by omega
      have b2 : (k : Int) < (s.size : Int) := by omega
      have hc := s[k].toNat_lt
      have hqt := quote_take s k hlt
      have HQ : Hid (out ++ [34] ++ (s.data.toList.take (k + 1)).flatMap quoteB = O ++ quoteB s[k]) := Lib.hid (by rw [hqt, ← List.append_assoc, hO])
      have HST := Lib.hid (fun w' => stands_any s[k] w')
      clear hqt hO
      cases hp : plainB s[k]
      · rw [hp] at HST
        have hqb : quoteB s[k] = [92, 120] ++ [hexI (s[k].toNat / 16)] ++ [hexI (s[k].toNat % 16)] := by unfold quoteB; rw [hp]; rfl
        rw [hqb] at HQ
        have b3 : (s[k].toNat : Int) / 16 < 16 := by omega
        have b4 : (s[k].toNat : Int) % 16 < 16 := by omega
        have hlow := hex_lowI s[k].toNat hc
        rw [show ((s[k].toNat % 16 : Nat) : Int) = (s[k].toNat : Int) % 16 from by simp] at hlow
        have b5 : ((s[k].toNat : Int) % 16).toNat = s[k].toNat % 16 := by omega
        have HW1 := Lib.hid (fun w' (h : ShAt B sb O fr w') => sh_text ⟨#[92, 120]⟩ h (by show O.length + 2 ≤ _; omega))
        have HW2 := Lib.hid (fun w' (C : Int) (hC : ((hexI (s[k].toNat / 16)).toNat : Int) = C) (h : ShAt B sb (O ++ [92, 120]) fr w') => sh_byte (hexI (s[k].toNat / 16)) C hC h (by rw [List.length_append]; show O.length + 2 ≤ _; omega))
        have HW3 := Lib.hid (fun w' (C : Int) (hC : ((hexI (s[k].toNat % 16)).toNat : Int) = C) (h : ShAt B sb (O ++ [92, 120] ++ [hexI (s[k].toNat / 16)]) fr w') => sh_byte (hexI (s[k].toNat % 16)) C hC h (by rw [List.length_append, List.length_append]; show O.length + 2 + 1 ≤ _; omega))
        clear hp hqb hlen
        go_wp2_with fail
        refine (HST.out _).mono ?_
        rintro e w2 ⟨rfl, rfl⟩
        go_wp2_with fail
        refine (HW1.out _ HK.out.1).mono ?_
        rintro e w2 ⟨rfl, h2, bl2⟩
        have H2 := Lib.hid (And.intro h2 (HK.out.2.trans bl2))
        clear h2 bl2
        go_upto_region 7 with fail
        have h2d : ShAt B sb (O ++ [92, 120]) fr w2.drew := H2.out.1
        have H2D := Lib.hid h2d
        have e7 : ((s[k].toNat : Int) / 16).toNat = s[k].toNat / 16 := by omega
        have HE7 := Lib.hid e7
        have HE5 := Lib.hid b5
        clear e7 b5
        go_region_with ((go_at_call 52; refine (HW2.out _ _ (by rw [hexArrI, HE7.out]) H2D.out).mono ?_; rintro e w3 ⟨rfl, h3, bl3⟩; have H3 := Lib.hid (And.intro h3 ((Below.drew H2.out.2).trans bl3)); clear h3 bl3))
        go_upto_region 8 with fail
        have h3d : ShAt B sb (O ++ [92, 120] ++ [hexI (s[k].toNat / 16)]) fr w3.drew := H3.out.1
        have H3D := Lib.hid h3d
        clear h2d h3d H2D
        go_region_with ((go_at_call 52; refine (HW3.out _ _ (by rw [hexArrI]; first | rfl | rw [HE5.out]) H3D.out).mono ?_; rintro e w4 ⟨rfl, h4, bl4⟩; have H4 := Lib.hid (And.intro h4 ((Below.drew H3.out.2).trans bl4)); clear h4 bl4))
        go_wp2_with fail
        go_roundw
        case rel => exact ⟨k + 1, by omega, by go_num, Lib.hid ⟨by rw [HQ.out]; simpa [List.append_assoc] using H4.out.1, H4.out.2⟩⟩
        case measure => simp [intOf] <;> omega
      · rw [hp] at HST
        have hqb : quoteB s[k] = [s[k]] := by unfold quoteB; rw [hp]; rfl
        rw [hqb] at HQ
        have HW1 := Lib.hid (fun w' (h : ShAt B sb O fr w') => sh_byte s[k] _ rfl h (by omega))
        have hkd : ShAt B sb O fr wr.drew := HK.out.1
        have HKD := Lib.hid hkd
        clear hp hqb hlen hkd
        go_wp2_with fail
        refine (HST.out _).mono ?_
        rintro e w2 ⟨rfl, rfl⟩
        go_upto_region 5 with fail
        go_region_with ((go_at_call 52; refine (HW1.out _ HKD.out).mono ?_; rintro e w3 ⟨rfl, h3, bl3⟩; have H3 := Lib.hid (And.intro h3 ((Below.drew HK.out.2).trans bl3)); clear h3 bl3))
        go_wp2_with fail
        go_roundw
        case rel => exact ⟨k + 1, by omega, by go_num, Lib.hid ⟨by rw [HQ.out]; exact H3.out.1, H3.out.2⟩⟩
        case measure => simp [intOf] <;> omega
    · have hks : k = s.size := by omega
      have b2 : ¬ (k : Int) < (s.size : Int) := by omega
      have hfin : O ++ [34] = out ++ quoteL s.data.toList := by
        rw [← hO, hks, List.take_of_length_le (by rw [Array.length_toList]; exact Nat.le_refl _)]
        unfold quoteL
        simp [List.append_assoc]
      have HFI := Lib.hid hfin
      have HWE := Lib.hid (sh_byte 34 34 rfl HK.out.1 (by omega))
      clear hfin hks hO hlen
      go_wp2_with fail
      refine HWE.out.mono ?_
      rintro e w2 ⟨rfl, h2, bl2⟩
      have H2 := Lib.hid (And.intro h2 (HK.out.2.trans bl2))
      clear h2 bl2
      go_wp2_with fail
      go_end0
      exact ⟨rfl, by rw [← HFI.out]; exact H2.out.1, H2.out.2⟩
end Go.Proofs.YtemgeelgkokpcaaDoor
