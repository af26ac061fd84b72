/- The walks of a book's Put, Compact, Records. -/
import Derived.Test.YtfpbnfjlabhhoaaDoorLbE
namespace Go.Proofs.YtfpbnfjlabhhoaaDoor
open Go.RowKit
attribute [local irreducible] shaL

theorem KBookAt.more {n0 : Nat} {X Y : List Nat} {w w' : World} {g b : Nat} {B : BookS} {D : DiskS} {rv : Value} (h : KBookAt n0 X w g b B D rv) (k : w.grownBy w' none) (hY : ∀ i ∈ Y, i ∈ X ∨ w.heap.size ≤ i) : KBookAt n0 Y w' g b B D rv := by
  have hl := h.mem.lt
  refine ⟨h.mem.grown k, h.gn, fun hx => ?_, fun x e => ⟨(h.rn x e).1, fun hx => ?_, (h.rn x e).2.2⟩, h.disk.more k (fun i hi => ?_)⟩
  · rcases hY g hx with q | q
    · exact h.gX q
    · omega
  · rcases hY x hx with q | q
    · exact (h.rn x e).2.1 q
    · have := hl.2 x e; omega
  · simp only [List.mem_append, List.mem_cons] at hi ⊢
    rcases hi with hi | rfl | hi
    · exact .inl (.inl hi)
    · exact .inl (.inr (.inl rfl))
    · rcases hY i hi with q | q
      · exact .inl (.inr (.inr q))
      · exact .inr q
theorem KBookAt.less {n0 : Nat} {X Y : List Nat} {w : World} {g b : Nat} {B : BookS} {D : DiskS} {rv : Value} (h : KBookAt n0 Y w g b B D rv) (hX : ∀ x ∈ X, x ∈ Y) : KBookAt n0 X w g b B D rv :=
  ⟨h.mem, h.gn, fun hx => h.gX (hX g hx), fun x e => ⟨(h.rn x e).1, fun hx => (h.rn x e).2.1 (hX x hx), (h.rn x e).2.2⟩,
   KDisk.of h.disk (fun i _ q => ⟨q.1.1, fun hi => q.1.2 (by
     simp only [List.mem_append, List.mem_cons] at hi ⊢
     rcases hi with hi | hi | hi
     · exact .inl hi
     · exact .inr (.inl hi)
     · exact .inr (.inr (hX i hi)))⟩)⟩
theorem KBook.less {n0 : Nat} {X Y : List Nat} {w : World} {g b : Nat} {B : BookS} {D : DiskS} (h : KBook n0 Y w g b B D) (hX : ∀ x ∈ X, x ∈ Y) : KBook n0 X w g b B D := let ⟨rv, k⟩ := h; ⟨rv, k.less hX⟩
theorem KBook.grown {n0 : Nat} {X : List Nat} {w w' : World} {g b : Nat} {B : BookS} {D : DiskS} (h : KBook n0 X w g b B D) (k : w.grownBy w' none) : KBook n0 X w' g b B D := let ⟨rv, q⟩ := h; ⟨rv, q.more k (fun _ hi => .inl hi)⟩
/-- what Put tells, and leaves -/
def putS (B : BookS) (D : DiskS) (s : ByteArray) : Int × BookS × DiskS :=
  if takesI B s ≠ 0 then (takesI B s, B, D) else if B.size - B.used < partsN s.size then (9, B, D) else layS B D B.place (max B.turn 1) B.recs B.used s
def compactS (B : BookS) (D : DiskS) (s : ByteArray) : Int × BookS × DiskS :=
  if takesI B s ≠ 0 then (takesI B s, B, D) else if B.size < partsN s.size ∨ B.turn = 4294967295 then (9, B, D) else layS B D (1 - B.place) (B.turn + 1) [] 0 s
theorem bput_nil (s : ByteArray) (w : World) : Calls Tryd.prog 7 #[.pointer none, .string s] w fun e w' => e = .returned (.int .i64 1) ∧ w = w' := by
  go_enter Tryd.func7, Tryd.ntmps7
  go_wp2_with fail
  refine (takes_nil s _).mono ?_
  rintro e w1 ⟨rfl, rfl⟩
  go_wp2_with fail
  go_ret
  exact ⟨rfl, rfl⟩
theorem bcompact_nil (s : ByteArray) (w : World) : Calls Tryd.prog 8 #[.pointer none, .string s] w fun e w' => e = .returned (.int .i64 1) ∧ w = w' := by
  go_enter Tryd.func8, Tryd.ntmps8
  go_wp2_with fail
  refine (takes_nil s _).mono ?_
  rintro e w1 ⟨rfl, rfl⟩
  go_wp2_with fail
  go_ret
  exact ⟨rfl, rfl⟩
theorem records_nil (w : World) : Calls Tryd.prog 10 #[.pointer none] w fun e w' => e = .returned (.slice none 0 0) ∧ w = w' := by
  go_enter Tryd.func10, Tryd.ntmps10
  go_wp2_with fail
  go_ret
  exact ⟨rfl, rfl⟩
set_option maxRecDepth 100000 in
set_option maxHeartbeats 1600000 in
theorem records_any (w : World) (g b : Nat) (B : BookS) (rv : Value) (h : BookMem w g b B rv) (hn : B.recs.length ≤ 100000) :
    Calls Tryd.prog 10 #[.pointer (some ⟨g, 0, none⟩)] w fun e w' => ∃ v, e = .returned v ∧ StrsAt w' v B.recs ∧ w.grownBy w' none := by
  obtain ⟨_, _, _, _, _, c5, _⟩ := h.at_
  have hrow := h.recs
  have hC : ∃ v0, rv = v0 ∧ ∀ w', w.grownBy w' none → Calls Tryd.prog 18 #[v0] w' fun e w'' => ∃ v, e = .returned v ∧ StrsAt w'' v B.recs ∧ w'.grownBy w'' none := by
    refine ⟨rv, rfl, fun w' hg => ?_⟩
    rcases own_form hrow with ⟨rfl, h0⟩ | ⟨r, c, rfl⟩
    · refine (Tryd.slices_Clone_string_nil 0 0 w').mono ?_
      rintro e w'' ⟨rfl, rfl⟩
      exact ⟨_, rfl, by rw [List.eq_nil_of_length_eq_zero h0]; exact ⟨none, 0, rfl, fun i h => absurd h (by simp)⟩, World.grownBy.refl _ _⟩
    · have hs := (strs_own hrow).grown hg
      by_cases h0 : B.recs.length = 0
      · rw [h0]
        refine (Tryd.slices_Clone_string_zero ⟨r, 0, none⟩ c w').mono ?_
        rintro e w'' ⟨v', rfl, q1, _, q2⟩
        have hr0 := List.eq_nil_of_length_eq_zero h0
        rw [hr0]
        obtain ⟨a, cc, rfl⟩ := slice_own' q1
        exact ⟨_, rfl, ⟨a, cc, rfl, fun i h => absurd h (by simp)⟩, grownBy_below q2⟩
      · refine (Tryd.slices_Clone_string r 0 B.recs.length c B.recs w' (Nat.le_refl _) (by omega) (fun j hj => ?_)).mono ?_
        · obtain ⟨g', o', he, hc⟩ := hs.at_ j _ (List.getElem?_eq_getElem hj)
          cases he
          rw [hc, List.getD_eq_getElem?_getD, List.getElem?_eq_getElem hj]
          rfl
        · rintro e w'' ⟨v', rfl, q1, _, q2⟩
          rw [List.take_of_length_le (Nat.le_refl _)] at q1
          obtain ⟨a, cc, rfl⟩ := slice_own' q1
          exact ⟨_, rfl, strs_own q1, grownBy_below q2⟩
  obtain ⟨v0, rfl, hC⟩ := hC
  have HC := Lib.hid hC
  clear hC hrow h
  go_enter Tryd.func10, Tryd.ntmps10
  go_wp2_with fail
  refine (HC.out _ (World.grownBy.refl _ _)).mono ?_
  rintro e w2 ⟨v, rfl, hs, hg⟩
  have H2 := Lib.hid (And.intro hs hg)
  clear hs hg
  go_wp2_with fail
  go_ret
  exact ⟨v, rfl, H2.out.1, H2.out.2⟩

set_option maxRecDepth 100000 in
set_option maxHeartbeats 6400000 in
theorem bput_any (n0 n : Nat) (X : List Nat) (w : World) (g b : Nat) (B : BookS) (D : DiskS) (hK : KBook n0 X w g b B D) (hX : ∀ x ∈ X, x < w.heap.size) (hn0 : n0 ≤ w.heap.size) (ho : BookOK n B) (hnl : D.last.length = n) (hon : D.on = true)
    (hwl : D.wait.length ≤ 100000000) (hf : D.fuse ≤ 9223372036854775807) (hk : D.keep.length ≤ 9223372036854775807)
    (s : ByteArray) (hs : s.size ≤ maxLen) (hr : ShaReady w) (hsX : n0 ≤ 0 → False) (hrX : n0 ≤ 1 → False) :
    Calls Tryd.prog 7 #[.pointer (some ⟨g, 0, none⟩), .string s] w fun e w' =>
      e = .returned (.int .i64 (putS B D s).1) ∧ KBook n0 X w' g b (putS B D s).2.1 (putS B D s).2.2 ∧ Turn (rest n0 X) w w' := by
  obtain ⟨rv, hK⟩ := hK
  have HT := Lib.hid (fun w' (h : w.grownBy w' none) => takes_any w' g b B rv (hK.mem.grown h) s hs)
  unfold putS
  by_cases ht0 : takesI B s ≠ 0
  · rw [if_pos ht0]
    have e1 : (takesI B s != 0) = true := by simpa using ht0
    generalize takesI B s = T at HT e1 ⊢
    have HK := Lib.hid hK
    clear hK ht0
    go_enter Tryd.func7, Tryd.ntmps7
    go_wp2_with fail
    refine (HT.out _ (World.grownBy.refl _ _)).mono ?_
    rintro e w1 ⟨rfl, rfl⟩
    go_wp2_with fail
    go_ret
    exact ⟨rfl, ⟨rv, HK.out⟩, Turn.refl _ _⟩
  · rw [if_neg ht0]
    have ht00 : takesI B s = 0 := by omega
    rw [ht00] at HT
    have hs9 : s.size ≤ 900 := by
      unfold takesI at ht00
      split at ht00
      · omega
      · omega
    have HLF := Lib.hid (fun w' (h : w.grownBy w' none) => bleft_any w' g b B rv (hK.mem.grown h) n ho)
    have HPT := Lib.hid (fun w => parts_any s.size (by omega) w)
    have hs9i : (s.size : Int) ≤ 900 := by omega
    by_cases hp : B.size - B.used < partsN s.size
    · rw [if_pos hp]
      have hp' : ((B.size - B.used : Nat) : Int) < (partsN s.size : Int) := by omega
      have HK := Lib.hid hK
      clear hK ht0 ht00
      generalize B.size - B.used = lf at HLF hp' hp
      generalize partsN s.size = pn at HPT hp' hp
      go_enter Tryd.func7, Tryd.ntmps7
      go_wp2_with fail
      refine (HT.out _ (World.grownBy.refl _ _)).mono ?_
      rintro e w1 ⟨rfl, rfl⟩
      go_wp2_with fail
      refine (HLF.out _ (World.grownBy.refl _ _)).mono ?_
      rintro e w2 ⟨rfl, g2⟩
      go_wp2_with fail
      refine (HPT.out _).mono ?_
      rintro e w3 ⟨rfl, rfl⟩
      go_wp2_with fail
      go_ret
      exact ⟨rfl, ⟨rv, HK.out.more g2 (fun _ hi => .inl hi)⟩, Turn.of_grown g2⟩
    · rw [if_neg hp]
      have hp' : ¬ ((B.size - B.used : Nat) : Int) < (partsN s.size : Int) := by omega
      have hpu : B.used + partsN s.size ≤ B.size := by have := ho.used; omega
      have HLAY : Hid (∀ (w' : World) (X' : List Nat) (hg : w.grownBy w' none) (hX' : ∀ x ∈ X', x < w'.heap.size) (hK' : KBookAt n0 X' w' g b B D rv), Calls Tryd.prog 17 #[.pointer (some ⟨g, 0, none⟩), .int .i64 B.place, .agg #[.int .u32 (max B.turn 1 : Nat), rv, .int .i64 B.used], .string s] w' fun e w'' =>
          e = .returned (.int .i64 (layS B D B.place (max B.turn 1) B.recs B.used s).1) ∧ KBook n0 X' w'' g b (layS B D B.place (max B.turn 1) B.recs B.used s).2.1 (layS B D B.place (max B.turn 1) B.recs B.used s).2.2 ∧ Turn (rest n0 X') w' w'') :=
        fun w' X' hg hX' hK' => lay_any n0 n X' w' g b B D rv hK' hX' (Nat.le_trans hn0 hg.size) ho hnl hon hwl hf hk B.place (max B.turn 1) B.used ho.place (by have := ho.turn; omega) rv B.recs hK'.mem.recs (.inl rfl) ho.recs s hs9 hpu (hr.grown hg) hsX hrX
      generalize layS B D B.place (max B.turn 1) B.recs B.used s = R at HLAY ⊢
      have HK := Lib.hid hK
      have hmx : max (B.turn : Int) 1 = ((max B.turn 1 : Nat) : Int) := by omega
      have HXX := Lib.hid (And.intro hX hn0)
      obtain ⟨MT, hMT⟩ : ∃ MT, max B.turn 1 = MT := ⟨_, rfl⟩
      rw [hMT] at HLAY hmx
      have hmt : MT ≤ 4294967295 := by have := ho.turn; omega
      obtain ⟨ra, rc, hrv⟩ := slice_own' hK.mem.recs
      generalize B.size - B.used = lf at HLF hp' hp
      generalize partsN s.size = pn at HPT hp' hp
      have hturn := ho.turn
      have hplace := ho.place
      have HMT := Lib.hid hMT
      clear hK ht0 ht00 hp hpu hX hn0 hsX hrX hr ho hMT
      go_enter Tryd.func7, Tryd.ntmps7
      go_wp2_with fail
      refine (HT.out _ (World.grownBy.refl _ _)).mono ?_
      rintro e w1 ⟨rfl, rfl⟩
      go_wp2_with fail
      refine (HLF.out _ (World.grownBy.refl _ _)).mono ?_
      rintro e w2 ⟨rfl, g2⟩
      go_wp2_with fail
      refine (HPT.out _).mono ?_
      rintro e w3 ⟨rfl, rfl⟩
      obtain ⟨_, _, _, c3, c4, c5, c6, _⟩ := (HK.out.mem.grown g2).at_
      have G2 := Lib.hid g2
      clear g2
      go_wp2_with fail
      obtain ⟨w3, hW3⟩ : ∃ w3, w2.alloc (.cells #[.int .u32 MT, .slice ra B.recs.length rc, .int .i64 B.used] 43) = w3 := ⟨_, rfl⟩
      rw [hW3]
      have hh3 : w3.heap[w2.heap.size]? = some (.cells #[.int .u32 MT, .slice ra B.recs.length rc, .int .i64 B.used] 43 (0, 0)) := by rw [← hW3]; exact heap_alloc_at _ _ _ rfl
      have hg3 : w2.grownBy w3 none := by rw [← hW3]; exact World.grownBy_alloc _ _ _
      have k0 := cell_of hh3 0
      have k1 := cell_of hh3 1
      have k2 := cell_of hh3 2
      simp at k0 k1 k2
      have c3' := hg3.cell c3 (by simp)
      have hsz3 : w3.heap.size = w2.heap.size + 1 := by rw [← hW3]; simp
      have HG3 := Lib.hid (grownBy_trans G2.out hg3)
      have HLY : Hid (∀ w', w3.grownBy w' none → Calls Tryd.prog 17 #[.pointer (some ⟨g, 0, none⟩), .int .i64 B.place, .agg #[.int .u32 MT, .slice ra B.recs.length rc, .int .i64 B.used], .string s] w' fun e w'' =>
          e = .returned (.int .i64 R.1) ∧ KBook n0 (w2.heap.size :: X) w'' g b R.2.1 R.2.2 ∧ Turn (rest n0 (w2.heap.size :: X)) w' w'') := by
        rw [← hrv]
        intro w' h
        have hsz' := h.size
        have hg' := grownBy_trans hg3 h
        have h2 := (HK.out.more (grownBy_trans G2.out hg') (Y := X) (fun _ hi => .inl hi))
        refine HLAY.out w' _ (grownBy_trans G2.out hg') (fun x hx => ?_) ((HK.out.more G2.out (Y := X) (fun _ hi => .inl hi)).more hg' (fun i hi => ?_))
        · rcases List.mem_cons.1 hx with rfl | hx
          · omega
          · have := HXX.out.1 x hx; have := G2.out.size; omega
        · rcases List.mem_cons.1 hi with rfl | hi
          · exact .inr (Nat.le_refl _)
          · exact .inl hi
      clear hW3 hh3 hg3 c3 c4 c5 c6 HLAY hsz3 hrv
      go_region_with ((go_at_call 17; refine (HLY.out _ (grownBy_drew (World.grownBy.refl _ _))).mono ?_; rintro e wl ⟨rfl, hkb, htt⟩))
      all_goals
        go_wp2_with fail
        go_ret
        exact ⟨rfl, hkb.less (fun x hx => by simp [hx]), (Turn.of_grown (grownBy_drew HG3.out)).then (rest_mono (fun x hx => by simp [hx]) htt)⟩

end Go.Proofs.YtfpbnfjlabhhoaaDoor
