/- The walk of a book's Compact. -/
import Derived.Test.YtfpbnfjlabhhoaaDoorLbF
namespace Go.Proofs.YtfpbnfjlabhhoaaDoor
open Go.RowKit
attribute [local irreducible] shaL

theorem own_nil (w : World) (t : TypeId) : w.ownsRow 0 t 1 (.slice none 0 0) ([] : List ByteArray).length (strsV []) := World.ownsRow_nil _ _ _ _
set_option maxRecDepth 100000 in
set_option maxHeartbeats 6400000 in
theorem bcompact_any (n0 n : Nat) (X : List Nat) (w : World) (g b : Nat) (B : BookS) (D : DiskS) (hK : KBook n0 X w g b B D) (hX : ∀ x ∈ X, x < w.heap.size) (hn0 : n0 ≤ w.heap.size) (ho : BookOK n B) (hnl : D.last.length = n) (hon : D.on = true)
    (hwl : D.wait.length ≤ 100000000) (hf : D.fuse ≤ 9223372036854775807) (hk : D.keep.length ≤ 9223372036854775807)
    (s : ByteArray) (hs : s.size ≤ maxLen) (hr : ShaReady w) (hsX : n0 ≤ 0 → False) (hrX : n0 ≤ 1 → False) :
    Calls Tryd.prog 8 #[.pointer (some ⟨g, 0, none⟩), .string s] w fun e w' =>
      e = .returned (.int .i64 (compactS B D s).1) ∧ KBook n0 X w' g b (compactS B D s).2.1 (compactS B D s).2.2 ∧ Turn (rest n0 X) w w' := by
  obtain ⟨rv, hK⟩ := hK
  have HT := Lib.hid (fun w' (h : w.grownBy w' none) => takes_any w' g b B rv (hK.mem.grown h) s hs)
  unfold compactS
  by_cases ht0 : takesI B s ≠ 0
  · rw [if_pos ht0]
    have e1 : (takesI B s != 0) = true := by simpa using ht0
    generalize takesI B s = T at HT e1 ⊢
    have HK := Lib.hid hK
    clear hK ht0
    go_enter Tryd.func8, Tryd.ntmps8
    go_wp2_with fail
    refine (HT.out _ (World.grownBy.refl _ _)).mono ?_
    rintro e w1 ⟨rfl, rfl⟩
    go_wp2_with fail
    go_ret
    exact ⟨rfl, ⟨rv, HK.out⟩, Turn.refl _ _⟩
  · rw [if_neg ht0]
    have ht00 : takesI B s = 0 := by omega
    rw [ht00] at HT
    have hs9 : s.size ≤ 900 := by
      unfold takesI at ht00
      split at ht00
      · omega
      · omega
    have HPT := Lib.hid (fun w => parts_any s.size (by omega) w)
    have hs9i : (s.size : Int) ≤ 900 := by omega
    obtain ⟨_, _, c2, c3, c4, _, _, _⟩ := hK.mem.at_
    by_cases hp : B.size < partsN s.size ∨ B.turn = 4294967295
    · rw [if_pos hp]
      have HK := Lib.hid hK
      clear hK ht0 ht00
      by_cases hp1 : B.size < partsN s.size
      · have hp' : (B.size : Int) < (partsN s.size : Int) := by omega
        generalize partsN s.size = pn at HPT hp' hp hp1
        go_enter Tryd.func8, Tryd.ntmps8
        go_wp2_with fail
        refine (HT.out _ (World.grownBy.refl _ _)).mono ?_
        rintro e w1 ⟨rfl, rfl⟩
        go_wp2_with fail
        first
          | go_region_with ((go_at_call 16; refine (HPT.out _).mono ?_; rintro e w3 ⟨rfl, rfl⟩))
          | fail
        all_goals
          go_wp2_with fail
          go_ret
          exact ⟨rfl, ⟨rv, HK.out.more (grownBy_drew (World.grownBy.refl _ _)) (fun _ hi => .inl hi)⟩, Turn.of_grown (grownBy_drew (World.grownBy.refl _ _))⟩
      · have hp' : ¬ (B.size : Int) < (partsN s.size : Int) := by omega
        have htm : B.turn = 4294967295 := by omega
        have htm' : ((B.turn : Int) == 4294967295) = true := by rw [htm]; rfl
        generalize partsN s.size = pn at HPT hp' hp hp1
        go_enter Tryd.func8, Tryd.ntmps8
        go_wp2_with fail
        refine (HT.out _ (World.grownBy.refl _ _)).mono ?_
        rintro e w1 ⟨rfl, rfl⟩
        go_wp2_with fail
        first
          | go_region_with ((go_at_call 16; refine (HPT.out _).mono ?_; rintro e w3 ⟨rfl, rfl⟩))
          | fail
        all_goals
          go_wp2_with fail
          go_ret
          exact ⟨rfl, ⟨rv, HK.out.more (grownBy_drew (World.grownBy.refl _ _)) (fun _ hi => .inl hi)⟩, Turn.of_grown (grownBy_drew (World.grownBy.refl _ _))⟩
    · rw [if_neg hp]
      have hp' : ¬ (B.size : Int) < (partsN s.size : Int) := by omega
      have htm : B.turn ≠ 4294967295 := by omega
      have htm' : ((B.turn : Int) == 4294967295) = false := by simp; omega
      have htl := ho.turn
      have hpl := ho.place
      have HLAY : Hid (∀ (w' : World) (hg : w.grownBy w' none), Calls Tryd.prog 17 #[.pointer (some ⟨g, 0, none⟩), .int .i64 (1 - B.place : Nat), .agg #[.int .u32 (B.turn + 1 : Nat), .slice none 0 0, .int .i64 0], .string s] w' fun e w'' =>
          e = .returned (.int .i64 (layS B D (1 - B.place) (B.turn + 1) [] 0 s).1) ∧ KBook n0 X w'' g b (layS B D (1 - B.place) (B.turn + 1) [] 0 s).2.1 (layS B D (1 - B.place) (B.turn + 1) [] 0 s).2.2 ∧ Turn (rest n0 X) w' w'') :=
        fun w' hg => lay_any n0 n X w' g b B D rv (hK.more hg (fun _ hi => .inl hi)) (fun x hx => by have := hX x hx; have := hg.size; omega) (Nat.le_trans hn0 hg.size) ho hnl hon hwl hf hk (1 - B.place) (B.turn + 1) 0 (by omega) (by omega) _ [] (own_nil w' _) (.inr rfl) (Nat.zero_le _) s hs9 (by omega) (hr.grown hg) hsX hrX
      generalize layS B D (1 - B.place) (B.turn + 1) [] 0 s = R at HLAY ⊢
      have e5 : (1 : Int) - (B.place : Int) = ((1 - B.place : Nat) : Int) := by omega
      have e6 := wrap_i64_nat (1 - B.place) (by omega)
      have e7 : (B.turn : Int) + 1 = ((B.turn + 1 : Nat) : Int) := by omega
      have e8 := wrap_u32 (B.turn + 1) (by omega)
      obtain ⟨q1, hq1⟩ : ∃ q, 1 - B.place = q := ⟨_, rfl⟩
      obtain ⟨q2, hq2⟩ : ∃ q, B.turn + 1 = q := ⟨_, rfl⟩
      rw [hq1] at HLAY e5 e6
      rw [hq2] at HLAY e7 e8
      generalize partsN s.size = pn at HPT hp' hp
      have d3 : w.drew.cell? ⟨g, 3, none⟩ = _ := c3
      have d4 : w.drew.cell? ⟨g, 4, none⟩ = _ := c4
      clear hK ht0 ht00 hp hX hn0 hsX hrX hr ho hq1 hq2
      go_enter Tryd.func8, Tryd.ntmps8
      go_wp2_with fail
      refine (HT.out _ (World.grownBy.refl _ _)).mono ?_
      rintro e w1 ⟨rfl, rfl⟩
      go_wp2_with fail
      go_upto_region 4 with (fail)
      go_cut [27] (fun tv wx => tv = .bool false ∧ Hid (wx = w.drew))
      case first =>
        first
          | go_region_with ((go_at_call 16; refine (HPT.out _).mono ?_; rintro e w3 ⟨rfl, rfl⟩))
          | fail
        all_goals
          go_wp2_with fail
          go_meet
          case rel => exact ⟨by first | rfl | simp [*], rfl⟩
      case rest =>
        obtain ⟨rfl, HWX⟩ := hcut
        obtain rfl : wc = w.drew := HWX.out
        go_wp2_with fail
        go_region_with ((go_at_call 17; refine (HLAY.out _ (grownBy_drew (grownBy_drew (World.grownBy.refl _ _)))).mono ?_; rintro e wl ⟨rfl, hkb, htt⟩))
        all_goals
          go_wp2_with fail
          go_ret
          exact ⟨rfl, hkb, (Turn.of_grown (grownBy_drew (grownBy_drew (World.grownBy.refl _ _)))).then htt⟩
end Go.Proofs.YtfpbnfjlabhhoaaDoor
