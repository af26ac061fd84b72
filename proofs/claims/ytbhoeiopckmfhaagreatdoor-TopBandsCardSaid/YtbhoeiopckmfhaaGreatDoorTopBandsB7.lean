/- The walks of a book's Put, Compact, Records. · The walk of a book's Compact. · Books on new disks; the walk of the laws' speaks. · logbook.Open of any disk. · What was written is read again: records of one part. No walk. · The walks of digits' small functions. · The walk of digits.Of. · The walks of wots' places, secrets, walks. · A row's post, where the call has only made memory. No walk. -/
import Derived.Test.YtbhoeiopckmfhaaGreatDoorTopBandsB5
import Derived.Test.YtbhoeiopckmfhaaGreatDoorTopBandsB6
import Derived.Test.YtbhoeiopckmfhaaGreatDoorTopBandsB2
import Derived.Test.YtbhoeiopckmfhaaGreatDoorTopBandsB1
import Derived.WalkSpells
import Derived.WalkLawsBesides
import Derived.Laws.IdiomStrings
import Derived.Deep.LoopGhost
import Derived.Deep.DeepCutAuto
import Derived.Deep.CutBlock
import Derived.Test.YtbhoeiopckmfhaaGreatDoorRows
import Derived.WalkKit
import Derived.ProofKit
import Derived.OpenShut
import Derived.ShutString
namespace Go.Proofs.YtbhoeiopckmfhaaGreatDoor
open Go.RowKit
attribute [local irreducible] shaL

theorem KBookAt.more {n0 : Nat} {X Y : List Nat} {w w' : World} {g b : Nat} {B : BookS} {D : DiskS} {rv : Value} (h : KBookAt n0 X w g b B D rv) (k : w.grownBy w' none) (hY : ∀ i ∈ Y, i ∈ X ∨ w.heap.size ≤ i) : KBookAt n0 Y w' g b B D rv := by
  have hl := h.mem.lt
  refine ⟨h.mem.grown k, h.gn, fun hx => ?_, fun x e => ⟨(h.rn x e).1, fun hx => ?_, (h.rn x e).2.2⟩, h.disk.more k (fun i hi => ?_)⟩
  · rcases hY g hx with q | q
    · exact h.gX q
    · omega
  · rcases hY x hx with q | q
    · exact (h.rn x e).2.1 q
    · have := hl.2 x e; omega
  · simp only [List.mem_append, List.mem_cons] at hi ⊢
    rcases hi with hi | rfl | hi
    · exact .inl (.inl hi)
    · exact .inl (.inr (.inl rfl))
    · rcases hY i hi with q | q
      · exact .inl (.inr (.inr q))
      · exact .inr q
theorem KBookAt.less {n0 : Nat} {X Y : List Nat} {w : World} {g b : Nat} {B : BookS} {D : DiskS} {rv : Value} (h : KBookAt n0 Y w g b B D rv) (hX : ∀ x ∈ X, x ∈ Y) : KBookAt n0 X w g b B D rv :=
  ⟨h.mem, h.gn, fun hx => h.gX (hX g hx), fun x e => ⟨(h.rn x e).1, fun hx => (h.rn x e).2.1 (hX x hx), (h.rn x e).2.2⟩,
   KDisk.of h.disk (fun i _ q => ⟨q.1.1, fun hi => q.1.2 (by
     simp only [List.mem_append, List.mem_cons] at hi ⊢
     rcases hi with hi | hi | hi
     · exact .inl hi
     · exact .inr (.inl hi)
     · exact .inr (.inr (hX i hi)))⟩)⟩
theorem KBook.less {n0 : Nat} {X Y : List Nat} {w : World} {g b : Nat} {B : BookS} {D : DiskS} (h : KBook n0 Y w g b B D) (hX : ∀ x ∈ X, x ∈ Y) : KBook n0 X w g b B D := let ⟨rv, k⟩ := h; ⟨rv, k.less hX⟩
theorem KBook.grown {n0 : Nat} {X : List Nat} {w w' : World} {g b : Nat} {B : BookS} {D : DiskS} (h : KBook n0 X w g b B D) (k : w.grownBy w' none) : KBook n0 X w' g b B D := let ⟨rv, q⟩ := h; ⟨rv, q.more k (fun _ hi => .inl hi)⟩
/-- what Put tells, and leaves -/
def putS (B : BookS) (D : DiskS) (s : ByteArray) : Int × BookS × DiskS :=
  if takesI B s ≠ 0 then (takesI B s, B, D) else if B.size - B.used < partsN s.size then (9, B, D) else layS B D B.place (max B.turn 1) B.recs B.used s
def compactS (B : BookS) (D : DiskS) (s : ByteArray) : Int × BookS × DiskS :=
  if takesI B s ≠ 0 then (takesI B s, B, D) else if B.size < partsN s.size ∨ B.turn = 4294967295 then (9, B, D) else layS B D (1 - B.place) (B.turn + 1) [] 0 s
theorem bput_nil (s : ByteArray) (w : World) : Calls Tryz.prog 92 #[.pointer none, .string s] w fun e w' => e = .returned (.int .i64 1) ∧ w = w' := by
  go_enter Tryz.func92, Tryz.ntmps92
  go_wp2_with fail
  refine (takes_nil s _).mono ?_
  rintro e w1 ⟨rfl, rfl⟩
  go_wp2_with fail
  go_ret
  exact ⟨rfl, rfl⟩
theorem bcompact_nil (s : ByteArray) (w : World) : Calls Tryz.prog 138 #[.pointer none, .string s] w fun e w' => e = .returned (.int .i64 1) ∧ w = w' := by
  go_enter Tryz.func138, Tryz.ntmps138
  go_wp2_with fail
  refine (takes_nil s _).mono ?_
  rintro e w1 ⟨rfl, rfl⟩
  go_wp2_with fail
  go_ret
  exact ⟨rfl, rfl⟩
theorem records_nil (w : World) : Calls Tryz.prog 41 #[.pointer none] w fun e w' => e = .returned (.slice none 0 0) ∧ w = w' := by
  go_enter Tryz.func41, Tryz.ntmps41
  go_wp2_with fail
  go_ret
  exact ⟨rfl, rfl⟩
set_option maxRecDepth 100000 in
set_option maxHeartbeats 1600000 in
theorem records_any (w : World) (g b : Nat) (B : BookS) (rv : Value) (h : BookMem w g b B rv) (hn : B.recs.length ≤ 100000) :
    Calls Tryz.prog 41 #[.pointer (some ⟨g, 0, none⟩)] w fun e w' => ∃ v, e = .returned v ∧ StrsAt w' v B.recs ∧ w.grownBy w' none := by
  obtain ⟨_, _, _, _, _, c5, _⟩ := h.at_
  have hrow := h.recs
  have hC : ∃ v0, rv = v0 ∧ ∀ w', w.grownBy w' none → Calls Tryz.prog 85 #[v0] w' fun e w'' => ∃ v, e = .returned v ∧ StrsAt w'' v B.recs ∧ w'.grownBy w'' none := by
    refine ⟨rv, rfl, fun w' hg => ?_⟩
    rcases own_form hrow with ⟨rfl, h0⟩ | ⟨r, c, rfl⟩
    · refine (Tryz.slices_Clone_string_nil 0 0 w').mono ?_
      rintro e w'' ⟨rfl, rfl⟩
      exact ⟨_, rfl, by rw [List.eq_nil_of_length_eq_zero h0]; exact ⟨none, 0, rfl, fun i h => absurd h (by simp)⟩, World.grownBy.refl _ _⟩
    · have hs := (strs_own hrow).grown hg
      by_cases h0 : B.recs.length = 0
      · rw [h0]
        refine (Tryz.slices_Clone_string_zero ⟨r, 0, none⟩ c w').mono ?_
        rintro e w'' ⟨v', rfl, q1, _, q2⟩
        have hr0 := List.eq_nil_of_length_eq_zero h0
        rw [hr0]
        obtain ⟨a, cc, rfl⟩ := slice_own' q1
        exact ⟨_, rfl, ⟨a, cc, rfl, fun i h => absurd h (by simp)⟩, grownBy_below q2⟩
      · refine (Tryz.slices_Clone_string r 0 B.recs.length c B.recs w' (Nat.le_refl _) (by omega) (fun j hj => ?_)).mono ?_
        · obtain ⟨g', o', he, hc⟩ := hs.at_ j _ (List.getElem?_eq_getElem hj)
          cases he
          rw [hc, List.getD_eq_getElem?_getD, List.getElem?_eq_getElem hj]
          rfl
        · rintro e w'' ⟨v', rfl, q1, _, q2⟩
          rw [List.take_of_length_le (Nat.le_refl _)] at q1
          obtain ⟨a, cc, rfl⟩ := slice_own' q1
          exact ⟨_, rfl, strs_own q1, grownBy_below q2⟩
  obtain ⟨v0, rfl, hC⟩ := hC
  have HC := Lib.hid hC
  clear hC hrow h
  go_enter Tryz.func41, Tryz.ntmps41
  go_wp2_with fail
  refine (HC.out _ (World.grownBy.refl _ _)).mono ?_
  rintro e w2 ⟨v, rfl, hs, hg⟩
  have H2 := Lib.hid (And.intro hs hg)
  clear hs hg
  go_wp2_with fail
  go_ret
  exact ⟨v, rfl, H2.out.1, H2.out.2⟩

set_option maxRecDepth 100000 in
set_option maxHeartbeats 6400000 in
theorem bput_any (n0 n : Nat) (X : List Nat) (w : World) (g b : Nat) (B : BookS) (D : DiskS) (hK : KBook n0 X w g b B D) (hX : ∀ x ∈ X, x < w.heap.size) (hn0 : n0 ≤ w.heap.size) (ho : BookOK n B) (hnl : D.last.length = n) (hon : D.on = true)
    (hwl : D.wait.length ≤ 100000000) (hf : D.fuse ≤ 9223372036854775807) (hk : D.keep.length ≤ 9223372036854775807)
    (s : ByteArray) (hs : s.size ≤ maxLen) (hr : ShaReady w) (hsX : n0 ≤ 0 → False) (hrX : n0 ≤ 1 → False) :
    Calls Tryz.prog 92 #[.pointer (some ⟨g, 0, none⟩), .string s] w fun e w' =>
      e = .returned (.int .i64 (putS B D s).1) ∧ KBook n0 X w' g b (putS B D s).2.1 (putS B D s).2.2 ∧ Turn (rest n0 X) w w' := by
  obtain ⟨rv, hK⟩ := hK
  have HT := Lib.hid (fun w' (h : w.grownBy w' none) => takes_any w' g b B rv (hK.mem.grown h) s hs)
  unfold putS
  by_cases ht0 : takesI B s ≠ 0
  · rw [if_pos ht0]
    have e1 : (takesI B s != 0) = true := by simpa using ht0
    generalize takesI B s = T at HT e1 ⊢
    have HK := Lib.hid hK
    clear hK ht0
    go_enter Tryz.func92, Tryz.ntmps92
    go_wp2_with fail
    refine (HT.out _ (World.grownBy.refl _ _)).mono ?_
    rintro e w1 ⟨rfl, rfl⟩
    go_wp2_with fail
    go_ret
    exact ⟨rfl, ⟨rv, HK.out⟩, Turn.refl _ _⟩
  · rw [if_neg ht0]
    have ht00 : takesI B s = 0 := by omega
    rw [ht00] at HT
    have hs9 : s.size ≤ 900 := by
      unfold takesI at ht00
      split at ht00
      · omega
      · omega
    have HLF := Lib.hid (fun w' (h : w.grownBy w' none) => bleft_any w' g b B rv (hK.mem.grown h) n ho)
    have HPT := Lib.hid (fun w => parts_any s.size (by omega) w)
    have hs9i : (s.size : Int) ≤ 900 := by omega
    by_cases hp : B.size - B.used < partsN s.size
    · rw [if_pos hp]
      have hp' : ((B.size - B.used : Nat) : Int) < (partsN s.size : Int) := by omega
      have HK := Lib.hid hK
      clear hK ht0 ht00
      generalize B.size - B.used = lf at HLF hp' hp
      generalize partsN s.size = pn at HPT hp' hp
      go_enter Tryz.func92, Tryz.ntmps92
      go_wp2_with fail
      refine (HT.out _ (World.grownBy.refl _ _)).mono ?_
      rintro e w1 ⟨rfl, rfl⟩
      go_wp2_with fail
      refine (HLF.out _ (World.grownBy.refl _ _)).mono ?_
      rintro e w2 ⟨rfl, g2⟩
      go_wp2_with fail
      refine (HPT.out _).mono ?_
      rintro e w3 ⟨rfl, rfl⟩
      go_wp2_with fail
      go_ret
      exact ⟨rfl, ⟨rv, HK.out.more g2 (fun _ hi => .inl hi)⟩, Turn.of_grown g2⟩
    · rw [if_neg hp]
      have hp' : ¬ ((B.size - B.used : Nat) : Int) < (partsN s.size : Int) := by omega
      have hpu : B.used + partsN s.size ≤ B.size := by have := ho.used; omega
      have HLAY : Hid (∀ (w' : World) (X' : List Nat) (hg : w.grownBy w' none) (hX' : ∀ x ∈ X', x < w'.heap.size) (hK' : KBookAt n0 X' w' g b B D rv), Calls Tryz.prog 137 #[.pointer (some ⟨g, 0, none⟩), .int .i64 B.place, .agg #[.int .u32 (max B.turn 1 : Nat), rv, .int .i64 B.used], .string s] w' fun e w'' =>
          e = .returned (.int .i64 (layS B D B.place (max B.turn 1) B.recs B.used s).1) ∧ KBook n0 X' w'' g b (layS B D B.place (max B.turn 1) B.recs B.used s).2.1 (layS B D B.place (max B.turn 1) B.recs B.used s).2.2 ∧ Turn (rest n0 X') w' w'') :=
        fun w' X' hg hX' hK' => lay_any n0 n X' w' g b B D rv hK' hX' (Nat.le_trans hn0 hg.size) ho hnl hon hwl hf hk B.place (max B.turn 1) B.used ho.place (by have := ho.turn; omega) rv B.recs hK'.mem.recs (.inl rfl) ho.recs s hs9 hpu (hr.grown hg) hsX hrX
      generalize layS B D B.place (max B.turn 1) B.recs B.used s = R at HLAY ⊢
      have HK := Lib.hid hK
      have hmx : max (B.turn : Int) 1 = ((max B.turn 1 : Nat) : Int) := by omega
      have HXX := Lib.hid (And.intro hX hn0)
      obtain ⟨MT, hMT⟩ : ∃ MT, max B.turn 1 = MT := ⟨_, rfl⟩
      rw [hMT] at HLAY hmx
      have hmt : MT ≤ 4294967295 := by have := ho.turn; omega
      obtain ⟨ra, rc, hrv⟩ := slice_own' hK.mem.recs
      generalize B.size - B.used = lf at HLF hp' hp
      generalize partsN s.size = pn at HPT hp' hp
      have hturn := ho.turn
      have hplace := ho.place
      have HMT := Lib.hid hMT
      clear hK ht0 ht00 hp hpu hX hn0 hsX hrX hr ho hMT
      go_enter Tryz.func92, Tryz.ntmps92
      go_wp2_with fail
      refine (HT.out _ (World.grownBy.refl _ _)).mono ?_
      rintro e w1 ⟨rfl, rfl⟩
      go_wp2_with fail
      refine (HLF.out _ (World.grownBy.refl _ _)).mono ?_
      rintro e w2 ⟨rfl, g2⟩
      go_wp2_with fail
      refine (HPT.out _).mono ?_
      rintro e w3 ⟨rfl, rfl⟩
      obtain ⟨_, _, _, c3, c4, c5, c6, _⟩ := (HK.out.mem.grown g2).at_
      have G2 := Lib.hid g2
      clear g2
      go_wp2_with fail
      obtain ⟨w3, hW3⟩ : ∃ w3, w2.alloc (.cells #[.int .u32 MT, .slice ra B.recs.length rc, .int .i64 B.used] 163) = w3 := ⟨_, rfl⟩
      rw [hW3]
      have hh3 : w3.heap[w2.heap.size]? = some (.cells #[.int .u32 MT, .slice ra B.recs.length rc, .int .i64 B.used] 163 (0, 0)) := by rw [← hW3]; exact heap_alloc_at _ _ _ rfl
      have hg3 : w2.grownBy w3 none := by rw [← hW3]; exact World.grownBy_alloc _ _ _
      have k0 := cell_of hh3 0
      have k1 := cell_of hh3 1
      have k2 := cell_of hh3 2
      simp at k0 k1 k2
      have c3' := hg3.cell c3 (by simp)
      have hsz3 : w3.heap.size = w2.heap.size + 1 := by rw [← hW3]; simp
      have HG3 := Lib.hid (grownBy_trans G2.out hg3)
      have HLY : Hid (∀ w', w3.grownBy w' none → Calls Tryz.prog 137 #[.pointer (some ⟨g, 0, none⟩), .int .i64 B.place, .agg #[.int .u32 MT, .slice ra B.recs.length rc, .int .i64 B.used], .string s] w' fun e w'' =>
          e = .returned (.int .i64 R.1) ∧ KBook n0 (w2.heap.size :: X) w'' g b R.2.1 R.2.2 ∧ Turn (rest n0 (w2.heap.size :: X)) w' w'') := by
        rw [← hrv]
        intro w' h
        have hsz' := h.size
        have hg' := grownBy_trans hg3 h
        have h2 := (HK.out.more (grownBy_trans G2.out hg') (Y := X) (fun _ hi => .inl hi))
        refine HLAY.out w' _ (grownBy_trans G2.out hg') (fun x hx => ?_) ((HK.out.more G2.out (Y := X) (fun _ hi => .inl hi)).more hg' (fun i hi => ?_))
        · rcases List.mem_cons.1 hx with rfl | hx
          · omega
          · have := HXX.out.1 x hx; have := G2.out.size; omega
        · rcases List.mem_cons.1 hi with rfl | hi
          · exact .inr (Nat.le_refl _)
          · exact .inl hi
      clear hW3 hh3 hg3 c3 c4 c5 c6 HLAY hsz3 hrv
      go_region_with ((go_at_call 137; refine (HLY.out _ (grownBy_drew (World.grownBy.refl _ _))).mono ?_; rintro e wl ⟨rfl, hkb, htt⟩))
      all_goals
        go_wp2_with fail
        go_ret
        exact ⟨rfl, hkb.less (fun x hx => by simp [hx]), (Turn.of_grown (grownBy_drew HG3.out)).then (rest_mono (fun x hx => by simp [hx]) htt)⟩

end Go.Proofs.YtbhoeiopckmfhaaGreatDoor

namespace Go.Proofs.YtbhoeiopckmfhaaGreatDoor
open Go.RowKit
attribute [local irreducible] shaL

theorem own_nil (w : World) (t : TypeId) : w.ownsRow 0 t 1 (.slice none 0 0) ([] : List ByteArray).length (strsV []) := World.ownsRow_nil _ _ _ _
set_option maxRecDepth 100000 in
set_option maxHeartbeats 6400000 in
theorem bcompact_any (n0 n : Nat) (X : List Nat) (w : World) (g b : Nat) (B : BookS) (D : DiskS) (hK : KBook n0 X w g b B D) (hX : ∀ x ∈ X, x < w.heap.size) (hn0 : n0 ≤ w.heap.size) (ho : BookOK n B) (hnl : D.last.length = n) (hon : D.on = true)
    (hwl : D.wait.length ≤ 100000000) (hf : D.fuse ≤ 9223372036854775807) (hk : D.keep.length ≤ 9223372036854775807)
    (s : ByteArray) (hs : s.size ≤ maxLen) (hr : ShaReady w) (hsX : n0 ≤ 0 → False) (hrX : n0 ≤ 1 → False) :
    Calls Tryz.prog 138 #[.pointer (some ⟨g, 0, none⟩), .string s] w fun e w' =>
      e = .returned (.int .i64 (compactS B D s).1) ∧ KBook n0 X w' g b (compactS B D s).2.1 (compactS B D s).2.2 ∧ Turn (rest n0 X) w w' := by
  obtain ⟨rv, hK⟩ := hK
  have HT := Lib.hid (fun w' (h : w.grownBy w' none) => takes_any w' g b B rv (hK.mem.grown h) s hs)
  unfold compactS
  by_cases ht0 : takesI B s ≠ 0
  · rw [if_pos ht0]
    have e1 : (takesI B s != 0) = true := by simpa using ht0
    generalize takesI B s = T at HT e1 ⊢
    have HK := Lib.hid hK
    clear hK ht0
    go_enter Tryz.func138, Tryz.ntmps138
    go_wp2_with fail
    refine (HT.out _ (World.grownBy.refl _ _)).mono ?_
    rintro e w1 ⟨rfl, rfl⟩
    go_wp2_with fail
    go_ret
    exact ⟨rfl, ⟨rv, HK.out⟩, Turn.refl _ _⟩
  · rw [if_neg ht0]
    have ht00 : takesI B s = 0 := by omega
    rw [ht00] at HT
    have hs9 : s.size ≤ 900 := by
      unfold takesI at ht00
      split at ht00
      · omega
      · omega
    have HPT := Lib.hid (fun w => parts_any s.size (by omega) w)
    have hs9i : (s.size : Int) ≤ 900 := by omega
    obtain ⟨_, _, c2, c3, c4, _, _, _⟩ := hK.mem.at_
    by_cases hp : B.size < partsN s.size ∨ B.turn = 4294967295
    · rw [if_pos hp]
      have HK := Lib.hid hK
      clear hK ht0 ht00
      by_cases hp1 : B.size < partsN s.size
      · have hp' : (B.size : Int) < (partsN s.size : Int) := by omega
        generalize partsN s.size = pn at HPT hp' hp hp1
        go_enter Tryz.func138, Tryz.ntmps138
        go_wp2_with fail
        refine (HT.out _ (World.grownBy.refl _ _)).mono ?_
        rintro e w1 ⟨rfl, rfl⟩
        go_wp2_with fail
        first
          | go_region_with ((go_at_call 136; refine (HPT.out _).mono ?_; rintro e w3 ⟨rfl, rfl⟩))
          | fail
        all_goals
          go_wp2_with fail
          go_ret
          exact ⟨rfl, ⟨rv, HK.out.more (grownBy_drew (World.grownBy.refl _ _)) (fun _ hi => .inl hi)⟩, Turn.of_grown (grownBy_drew (World.grownBy.refl _ _))⟩
      · have hp' : ¬ (B.size : Int) < (partsN s.size : Int) := by omega
        have htm : B.turn = 4294967295 := by omega
        have htm' : ((B.turn : Int) == 4294967295) = true := by rw [htm]; rfl
        generalize partsN s.size = pn at HPT hp' hp hp1
        go_enter Tryz.func138, Tryz.ntmps138
        go_wp2_with fail
        refine (HT.out _ (World.grownBy.refl _ _)).mono ?_
        rintro e w1 ⟨rfl, rfl⟩
        go_wp2_with fail
        first
          | go_region_with ((go_at_call 136; refine (HPT.out _).mono ?_; rintro e w3 ⟨rfl, rfl⟩))
          | fail
        all_goals
          go_wp2_with fail
          go_ret
          exact ⟨rfl, ⟨rv, HK.out.more (grownBy_drew (World.grownBy.refl _ _)) (fun _ hi => .inl hi)⟩, Turn.of_grown (grownBy_drew (World.grownBy.refl _ _))⟩
    · rw [if_neg hp]
      have hp' : ¬ (B.size : Int) < (partsN s.size : Int) := by omega
      have htm : B.turn ≠ 4294967295 := by omega
      have htm' : ((B.turn : Int) == 4294967295) = false := by simp; omega
      have htl := ho.turn
      have hpl := ho.place
      have HLAY : Hid (∀ (w' : World) (hg : w.grownBy w' none), Calls Tryz.prog 137 #[.pointer (some ⟨g, 0, none⟩), .int .i64 (1 - B.place : Nat), .agg #[.int .u32 (B.turn + 1 : Nat), .slice none 0 0, .int .i64 0], .string s] w' fun e w'' =>
          e = .returned (.int .i64 (layS B D (1 - B.place) (B.turn + 1) [] 0 s).1) ∧ KBook n0 X w'' g b (layS B D (1 - B.place) (B.turn + 1) [] 0 s).2.1 (layS B D (1 - B.place) (B.turn + 1) [] 0 s).2.2 ∧ Turn (rest n0 X) w' w'') :=
        fun w' hg => lay_any n0 n X w' g b B D rv (hK.more hg (fun _ hi => .inl hi)) (fun x hx => by have := hX x hx; have := hg.size; omega) (Nat.le_trans hn0 hg.size) ho hnl hon hwl hf hk (1 - B.place) (B.turn + 1) 0 (by omega) (by omega) _ [] (own_nil w' _) (.inr rfl) (Nat.zero_le _) s hs9 (by omega) (hr.grown hg) hsX hrX
      generalize layS B D (1 - B.place) (B.turn + 1) [] 0 s = R at HLAY ⊢
      have e5 : (1 : Int) - (B.place : Int) = ((1 - B.place : Nat) : Int) := by omega
      have e6 := wrap_i64_nat (1 - B.place) (by omega)
      have e7 : (B.turn : Int) + 1 = ((B.turn + 1 : Nat) : Int) := by omega
      have e8 := wrap_u32 (B.turn + 1) (by omega)
      obtain ⟨q1, hq1⟩ : ∃ q, 1 - B.place = q := ⟨_, rfl⟩
      obtain ⟨q2, hq2⟩ : ∃ q, B.turn + 1 = q := ⟨_, rfl⟩
      rw [hq1] at HLAY e5 e6
      rw [hq2] at HLAY e7 e8
      generalize partsN s.size = pn at HPT hp' hp
      have d3 : w.drew.cell? ⟨g, 3, none⟩ = _ := c3
      have d4 : w.drew.cell? ⟨g, 4, none⟩ = _ := c4
      clear hK ht0 ht00 hp hX hn0 hsX hrX hr ho hq1 hq2
      go_enter Tryz.func138, Tryz.ntmps138
      go_wp2_with fail
      refine (HT.out _ (World.grownBy.refl _ _)).mono ?_
      rintro e w1 ⟨rfl, rfl⟩
      go_wp2_with fail
      go_upto_region 4 with (fail)
      go_cut [27] (fun tv wx => tv = .bool false ∧ Hid (wx = w.drew))
      case first =>
        first
          | go_region_with ((go_at_call 136; refine (HPT.out _).mono ?_; rintro e w3 ⟨rfl, rfl⟩))
          | fail
        all_goals
          go_wp2_with fail
          go_meet
          case rel => exact ⟨by first | rfl | simp [*], rfl⟩
      case rest =>
        obtain ⟨rfl, HWX⟩ := hcut
        obtain rfl : wc = w.drew := HWX.out
        go_wp2_with fail
        go_region_with ((go_at_call 137; refine (HLAY.out _ (grownBy_drew (grownBy_drew (World.grownBy.refl _ _)))).mono ?_; rintro e wl ⟨rfl, hkb, htt⟩))
        all_goals
          go_wp2_with fail
          go_ret
          exact ⟨rfl, hkb, (Turn.of_grown (grownBy_drew (grownBy_drew (World.grownBy.refl _ _)))).then htt⟩
end Go.Proofs.YtbhoeiopckmfhaaGreatDoor

namespace Go.Proofs.YtbhoeiopckmfhaaGreatDoor
open Go.RowKit
attribute [local irreducible] shaL

theorem open_book {n0 : Nat} {X : List Nat} {w w' : World} {g b : Nat} {B : BookS} {D : DiskS} {rv : Value} (hD : KDisk n0 X w b D) (hX : ∀ x ∈ X, x < w.heap.size) (hn : n0 ≤ w.heap.size) (hM : BookMem w' g b B rv) (hg : w.heap.size ≤ g) (hr : ∀ x, rv.ownBlock = some x → w.heap.size ≤ x ∧ x ≠ g) (k : w.grownBy w' none) : KBook n0 X w' g b B D :=
  ⟨rv, hM, Nat.le_trans hn hg, fun hx => by have := hX g hx; omega, fun x e => ⟨Nat.le_trans hn (hr x e).1, fun hx => by have := hX x hx; have := (hr x e).1; omega, (hr x e).2⟩,
   hD.more k (fun i hi => by
     simp only [List.mem_append, List.mem_cons] at hi
     rcases hi with hi | rfl | hi
     · exact .inr (hr i (ownB_mem.1 hi)).1
     · exact .inr hg
     · exact .inl hi)⟩
theorem new_read (n i : Nat) (h : i < n) : readL (newD n).last (newD n).wait i = zeros 64 := by
  show ((List.replicate n (zeros 64)).getD i []) = _
  rw [List.getD_eq_getElem?_getD, List.getElem?_replicate, if_pos h]
  rfl
theorem turn_zero : turnOf (str (zeros 64)) = 0 := by decide
/-- the book of a new disk -/
def newB (first size : Nat) : BookS := ⟨first, size, 0, 0, [], 0, false⟩
theorem open_new (n0 : Nat) (X : List Nat) (n : Nat) (w : World) (b first count size : Nat) (hD : KDisk n0 X w b (newD n)) (hX : ∀ x ∈ X, x < w.heap.size) (hn0 : n0 ≤ w.heap.size) (hn : n ≤ 1024) (h8 : 8 ≤ count) (hsz : count / 2 = size) (ha : first + count ≤ n) :
    Calls Tryz.prog 40 #[.pointer (some ⟨b, 0, none⟩), .int .i64 first, .int .i64 count] w fun e w' => ∃ g, e = .returned (.tuple #[.pointer (some ⟨g, 0, none⟩), .int .i64 0]) ∧ KBook n0 X w' g b (newB first size) (newD n) ∧ w.grownBy w' none := by
  refine (open_any _ n w b (newD n) first count size hD (by show (List.replicate n (zeros 64)).length = n; simp) hn h8 hsz ha rfl (by show 0 ≤ _; decide) (fun _ => ⟨0, [], 0⟩) (fun j _ => ⟨Nat.zero_le _, Nat.le_refl _, Nat.zero_le _⟩) ?_).mono ?_
  · intro p hp w' v hg hv _
    obtain ⟨s, r, hsr⟩ : ∃ s r, secsK (newD n) (first + p * size) size = s :: r := by
      cases e : secsK (newD n) (first + p * size) size with
      | nil => have := secsK_length (newD n) (first + p * size) size; rw [e] at this; simp at this; omega
      | cons s r => exact ⟨s, r, rfl⟩
    have hs0 : s = str (zeros 64) := by
      have h1 : (secsK (newD n) (first + p * size) size)[0]? = some s := by rw [hsr]; rfl
      unfold secsK at h1
      rw [List.getElem?_map, List.getElem?_range (by omega)] at h1
      have h2 := new_read n (first + p * size + 0) (by rcases (by omega : p = 0 ∨ p = 1) with rfl | rfl <;> omega)
      simp only [Option.map_some, Option.some.injEq] at h1
      rw [← h1, h2]
    have hl : r.length + 1 = size := by have := secsK_length (newD n) (first + p * size) size; rw [hsr] at this; exact this
    rw [hsr] at hv
    subst hs0
    refine (halfOf_none w' v _ r hv rfl turn_zero (by omega)).mono ?_
    rintro e w'' ⟨rfl, h2⟩
    exact ⟨.slice none 0 0, rfl, World.ownsRow_nil _ _ _ _, h2⟩
  · rintro e w' ⟨g, rv, rfl, hM, hg, hr, k⟩
    have hp : pickS first size (fun _ => ⟨0, [], 0⟩) 2 = newB first size := rfl
    rw [hp] at hM
    exact ⟨g, rfl, open_book hD hX hn0 hM hg hr k, k⟩

theorem writes_fine : ∀ (L : List ByteArray) (D : DiskS) (i : Nat), D.fuse < 0 → (writesS D i L).1 = 0 ∧ (writesS D i L).2.on = D.on ∧ (writesS D i L).2.fuse = D.fuse ∧ (writesS D i L).2.last.length = D.last.length ∧ (writesS D i L).2.wait = [] ∧ (writesS D i L).2.keep = D.keep
  | [], D, i, h => by
    rw [writesS, if_neg (by omega)]
    refine ⟨rfl, rfl, ?_, syncL_length _ _, rfl, rfl⟩
    show decF D.fuse = _
    unfold decF
    rw [if_pos h]
  | s :: r, D, i, h => by
    have e : (wroteD D i s).fuse = D.fuse := by show (if D.fuse < 0 then D.fuse else _) = _; rw [if_pos h]
    rw [writesS, if_neg (by omega)]
    have := writes_fine r (wroteD D i s) (i + 1) (by rw [e]; exact h)
    rw [e] at this
    exact this
/-- Put where nothing fails -/
theorem put_fine (B : BookS) (D : DiskS) (s : ByteArray) (hf : B.failed = false) (hs : s.size ≤ 900) (hl : partsN s.size ≤ B.size - B.used) (h : D.fuse < 0) :
    ∃ E, putS B D s = (0, { B with turn := max B.turn 1, recs := B.recs ++ [s], used := B.used + partsN s.size }, E) ∧ E.on = D.on ∧ E.fuse = D.fuse ∧ E.last.length = D.last.length ∧ E.wait = [] ∧ E.keep = D.keep := by
  have ht : takesI B s = 0 := by unfold takesI; rw [if_neg (by omega), hf]; rfl
  have hw := writes_fine (nextS (max B.turn 1) B.recs.length s) D (B.first + B.place * B.size + B.used) h
  refine ⟨_, ?_, hw.2⟩
  unfold putS
  rw [if_neg (by omega), if_neg (by omega)]
  unfold layS
  rw [if_pos hw.1]
theorem newB_ok (n first size : Nat) (ha : first + 2 * size ≤ n) (hn : n ≤ 1024) (h4 : 4 ≤ size) : BookOK n (newB first size) := ⟨ha, hn, h4, Nat.zero_le _, Nat.zero_le _, Nat.le_refl _, Nat.zero_le _⟩

end Go.Proofs.YtbhoeiopckmfhaaGreatDoor

namespace Go.Proofs.YtbhoeiopckmfhaaGreatDoor
open Go.RowKit
attribute [local irreducible] shaL

/-- the book that stands on a disk -/
def bookOf (D : DiskS) (first size : Nat) : BookS := pickS first size (fun p => halfS (secsK D (first + p * size) size)) 2
theorem halfS_ok (secs : List ByteArray) (h : ∀ x ∈ secs, x.size = 64) (h0 : 0 < secs.length) : (halfS secs).turn ≤ 4294967295 ∧ (halfS secs).recs.length ≤ (halfS secs).used ∧ (halfS secs).used ≤ secs.length := by
  unfold halfS
  have hs : (secs.headD ⟨#[]⟩).size = 64 := by
    cases secs with
    | nil => simp at h0
    | cons a b => exact h a (by simp)
  have ht := turnOf_lt _ hs
  have hl := halfLoop_ok (turnOf (secs.headD ⟨#[]⟩)) secs secs.length [] 0 (Nat.le_refl _) (Nat.zero_le _)
  split
  · exact ⟨Nat.zero_le _, Nat.le_refl _, Nat.zero_le _⟩
  · split
    · exact ⟨Nat.zero_le _, Nat.le_refl _, Nat.zero_le _⟩
    · exact ⟨by show turnOf _ ≤ _; omega, hl.1, hl.2⟩
theorem secsK_64 {F : Nat → Prop} {w : World} {b : Nat} {D : DiskS} (hD : DiskAt F w b D) (A k : Nat) (h : A + k ≤ D.last.length) : ∀ x ∈ secsK D A k, x.size = 64 := by
  intro x hx
  obtain ⟨i, hi, rfl⟩ := List.mem_map.1 hx
  rw [List.mem_range] at hi
  obtain ⟨_, _, _, m, _⟩ := hD
  exact readL_length m.secs rfl m.waits (by omega)
theorem bookOf_ok {F : Nat → Prop} {w : World} {b : Nat} {D : DiskS} (hD : DiskAt F w b D) (n first size : Nat) (hnl : D.last.length = n) (hn : n ≤ 1024) (h4 : 4 ≤ size) (ha : first + 2 * size ≤ n) : BookOK n (bookOf D first size) :=
  pickS_ok n first size _ ha hn h4 2 (Nat.le_refl _) (fun j hj => by
    have := halfS_ok (secsK D (first + j * size) size) (secsK_64 hD _ _ (by rw [hnl]; rcases (by omega : j = 0 ∨ j = 1) with rfl | rfl <;> omega)) (by rw [secsK_length]; omega)
    rwa [secsK_length] at this)
theorem bopen_any (n0 : Nat) (X : List Nat) (n : Nat) (w : World) (b first count size : Nat) (D : DiskS) (hD : KDisk n0 X w b D) (hX : ∀ x ∈ X, x < w.heap.size) (hn0 : n0 ≤ w.heap.size) (hnl : D.last.length = n) (hn : n ≤ 1024) (h8 : 8 ≤ count) (hsz : count / 2 = size) (ha : first + count ≤ n) (hon : D.on = true) (hwl : D.wait.length ≤ 1000000000) (hr : ShaReady w) :
    Calls Tryz.prog 40 #[.pointer (some ⟨b, 0, none⟩), .int .i64 first, .int .i64 count] w fun e w' => ∃ g, e = .returned (.tuple #[.pointer (some ⟨g, 0, none⟩), .int .i64 0]) ∧ KBook n0 X w' g b (bookOf D first size) D ∧ w.grownBy w' none := by
  have hs4 : 4 ≤ size := by omega
  have h64 : ∀ p, p < 2 → ∀ x ∈ secsK D (first + p * size) size, x.size = 64 := fun p hp => secsK_64 hD _ _ (by rw [hnl]; rcases (by omega : p = 0 ∨ p = 1) with rfl | rfl <;> omega)
  refine (open_any _ n w b D first count size hD hnl hn h8 hsz ha hon hwl (fun p => halfS (secsK D (first + p * size) size)) (fun j hj => ?_) ?_).mono ?_
  · have := halfS_ok (secsK D (first + j * size) size) (h64 j hj) (by rw [secsK_length]; omega)
    rwa [secsK_length] at this
  · intro p hp w' v hg hv hcap
    exact halfOf_any w' v _ hv (by rw [secsK_length]; omega) (by rw [secsK_length]; omega) (h64 p hp) hcap (hr.grown hg)
  · rintro e w' ⟨g, rv, rfl, hM, hg, hrr, k⟩
    exact ⟨g, rfl, open_book hD hX hn0 hM hg hrr k, k⟩
end Go.Proofs.YtbhoeiopckmfhaaGreatDoor

namespace Go.Proofs.YtbhoeiopckmfhaaGreatDoor
open Go.RowKit
attribute [local irreducible] shaL

theorem sumS_at (b : ByteArray) (i : Nat) (h : i < b.size) : (sumS b).data.toList[i]? = b.data.toList[i]? := by
  unfold sumS
  rw [ByteArray.data_append, Array.toList_append, List.getElem?_append_left (by simpa using h)]
theorem secS_at (turn num : Nat) (s : ByteArray) (i k : Nat) (h : k < 56) : (secS turn num s i).data.toList[k]? = (bodyL turn num s i)[k]? := by
  unfold secS
  rw [sumS_at _ _ (by rw [str_size, bodyL_length]; exact h)]
  rfl
theorem be1 (n : Nat) (h : n < 256) : be n 1 = [UInt8.ofNat n] := by
  show be (n / 256) 0 ++ [UInt8.ofNat (n % 256)] = _
  rw [Nat.mod_eq_of_lt h]; rfl
theorem val_beL (n : Nat) : ∀ k, n < 256 ^ k → val (be n k) = n
  | 0, h => by simp at h; subst h; rfl
  | k + 1, h => by
    rw [be, val_snoc, val_be4 n k h]
    simp
    omega
where
  val_be4 (n k : Nat) (h : n < 256 ^ (k + 1)) : val (be (n / 256) k) = n / 256 := val_beL (n / 256) k (by rw [Nat.div_lt_iff_lt_mul (by decide)]; rwa [Nat.pow_succ] at h)
theorem turnOf_secS (turn num : Nat) (s : ByteArray) (i : Nat) (ht : turn < 4294967296) : turnOf (secS turn num s i) = turn := by
  have e : (secS turn num s i).data.toList.take 4 = be turn 4 := by
    apply List.ext_getElem?
    intro k
    by_cases hk : k < 4
    · rw [List.getElem?_take, if_pos hk, secS_at _ _ _ _ _ (by omega)]
      unfold bodyL
      simp only [List.append_assoc]
      rw [List.getElem?_append_left (by rw [be_length]; exact hk)]
    · rw [List.getElem?_take, if_neg hk, List.getElem?_eq_none (by rw [be_length]; omega)]
  unfold turnOf
  rw [e, val_beL turn 4 (by simpa using ht)]
theorem byte7 (turn num : Nat) (s : ByteArray) (i : Nat) (hp : partsN s.size < 256) (hi : i < 256) : byteAt (secS turn num s i) 7 = partsN s.size := by
  unfold byteAt
  rw [secS_at _ _ _ _ _ (by decide)]
  unfold bodyL
  rw [be1 _ hi, be1 _ hp]
  simp only [List.append_assoc]
  rw [List.getElem?_append_right (by rw [be_length]; decide), be_length, List.getElem?_append_right (by rw [be_length]; decide), be_length]
  simp
  omega
theorem byte8 (turn num : Nat) (s : ByteArray) (i : Nat) (hp : partsN s.size < 256) (hi : i < 256) : byteAt (secS turn num s i) 8 = (partS s i).size := by
  have hps := partS_size s i
  unfold byteAt
  rw [secS_at _ _ _ _ _ (by decide)]
  unfold bodyL
  rw [be1 _ hi, be1 _ hp, be1 (partS s i).size (by omega)]
  simp only [List.append_assoc]
  rw [List.getElem?_append_right (by rw [be_length]; decide), be_length, List.getElem?_append_right (by rw [be_length]; decide), be_length]
  simp
  omega
theorem body_part (turn num : Nat) (s : ByteArray) (i k : Nat) (hk : k < (partS s i).size) : (bodyL turn num s i)[17 + k]? = (partS s i).data.toList[k]? := by
  have h1 : (nameS turn num s).data.toList.length = 8 := nameS_size turn num s
  have e : bodyL turn num s i = (be turn 4 ++ be num 2 ++ be i 1 ++ be (partsN s.size) 1 ++ be (partS s i).size 1 ++ (nameS turn num s).data.toList) ++ ((partS s i).data.toList ++ List.replicate (39 - (partS s i).size) 0) := by
    unfold bodyL
    simp only [List.append_assoc]
  have hl : (be turn 4 ++ be num 2 ++ be i 1 ++ be (partsN s.size) 1 ++ be (partS s i).size 1 ++ (nameS turn num s).data.toList).length = 17 := by
    simp only [List.length_append, be_length, h1]
  rw [e, List.getElem?_append_right (by omega), hl, Nat.add_sub_cancel_left, List.getElem?_append_left (by simpa using hk)]
theorem partOf_secS (turn num : Nat) (s : ByteArray) (i : Nat) (hp : partsN s.size < 256) (hi : i < 256) : (partOf (secS turn num s i)).data.toList = (partS s i).data.toList := by
  have hps := partS_size s i
  have h64 := secS_size turn num s i
  unfold partOf
  rw [byte8 turn num s i hp hi]
  apply List.ext_getElem?
  intro k
  rw [ByteArray.data_extract, Array.toList_extract]
  by_cases hk : k < (partS s i).size
  · rw [← body_part turn num s i k hk, ← secS_at turn num s i (17 + k) (by omega)]
    simp [List.getElem?_take, List.getElem?_drop, hk]
  · rw [List.getElem?_eq_none (by simp; omega), List.getElem?_eq_none (by simpa using hk)]
theorem str_selfL (s : ByteArray) : str s.data.toList = s := by cases s; rfl
theorem partS_zero (s : ByteArray) (h : s.size ≤ 39) : partS s 0 = s := by
  unfold partS
  rw [show 39 * 0 = 0 from rfl, show min (39 * (0 + 1)) s.size = s.size from by omega]
  apply ByteArray.ext
  rw [ByteArray.data_extract]
  simp
theorem readS_cons (turn num : Nat) (x : ByteArray) (R : List ByteArray) : readS turn num (x :: R) = if (x :: R).length < byteAt x 7 then none
  else if ((x :: R).take (byteAt x 7)).any (fun x => decide (39 < byteAt x 8)) then none
  else if 900 < (gatherL ((x :: R).take (byteAt x 7))).length then none
  else if nextS turn num (str (gatherL ((x :: R).take (byteAt x 7)))) = (x :: R).take (byteAt x 7) then some (str (gatherL ((x :: R).take (byteAt x 7)))) else none := rfl
theorem halfS_cons (x : ByteArray) (R : List ByteArray) : halfS (x :: R) = if turnOf x = 0 then ⟨0, [], 0⟩
  else if (halfLoop (turnOf x) (x :: R) (x :: R).length [] 0).1 = [] then ⟨0, [], 0⟩
  else ⟨turnOf x, (halfLoop (turnOf x) (x :: R) (x :: R).length [] 0).1, (halfLoop (turnOf x) (x :: R) (x :: R).length [] 0).2⟩ := rfl
theorem loop_some (turn : Nat) (secs : List ByteArray) (f : Nat) (L : List ByteArray) (u : Nat) (s : ByteArray) (hu : u < secs.length) (h : readS turn L.length (secs.drop u) = some s) : halfLoop turn secs (f + 1) L u = halfLoop turn secs f (L ++ [s]) (u + partsN s.size) := by
  rw [halfLoop, if_pos hu, h]
theorem loop_none (turn : Nat) (secs : List ByteArray) (f : Nat) (L : List ByteArray) (u : Nat) (hu : u < secs.length) (h : readS turn L.length (secs.drop u) = none) : halfLoop turn secs (f + 1) L u = (L, u) := by
  rw [halfLoop, if_pos hu, h]
theorem gather_one (x : ByteArray) : gatherL [x] = (partOf x).data.toList := by simp [gatherL]
/-- a record of one part is read as it was written -/
theorem readS_one (turn num : Nat) (s : ByteArray) (R : List ByteArray) (hs : s.size ≤ 39) : readS turn num (secS turn num s 0 :: R) = some s := by
  have hp : partsN s.size = 1 := by unfold partsN; split <;> omega
  have h7 := byte7 turn num s 0 (by omega) (by decide)
  have h8 := byte8 turn num s 0 (by omega) (by decide)
  rw [partS_zero s hs] at h8
  have hg : gatherL [secS turn num s 0] = s.data.toList := by
    rw [gather_one, partOf_secS turn num s 0 (by omega) (by decide), partS_zero s hs]
  have hn : nextS turn num s = [secS turn num s 0] := by unfold nextS nextK; rw [hp]; rfl
  rw [readS_cons]
  generalize secS turn num s 0 = x at h7 h8 hg hn
  have ht : (x :: R).take 1 = [x] := rfl
  have ha : ([x].any fun x => decide (39 < byteAt x 8)) = false := by simp [h8]; omega
  have hl : s.data.toList.length = s.size := rfl
  rw [h7, hp, ht, hg, ha, str_selfL, hn, if_neg (by simp), if_neg (by simp), if_neg (by omega), if_pos rfl]
/-- nothing stands in a sector of noughts -/
def zsec : ByteArray := str (zeros 64)
theorem readS_zero (turn num : Nat) (R : List ByteArray) : readS turn num (zsec :: R) = none := by
  have h7 : byteAt zsec 7 = 0 := by decide
  rw [readS_cons, h7]
  generalize zsec = x
  have ht : (x :: R).take 0 = [] := rfl
  have hg : gatherL [] = [] := rfl
  rw [ht, hg, if_neg (by simp), if_neg (by simp), if_neg (by simp), if_neg]
  intro h
  have := congrArg List.length h
  rw [nextS_length] at this
  have h1 := partsN_pos (str []).size
  simp at this
  omega
theorem halfS_zero (R : List ByteArray) : halfS (zsec :: R) = ⟨0, [], 0⟩ := by
  have h : turnOf zsec = 0 := by decide
  rw [halfS_cons, if_pos h]
/-- one record -/
theorem halfS_one (turn : Nat) (ht : turn < 4294967296) (h0 : turn ≠ 0) (s : ByteArray) (hs : s.size ≤ 39) (R : List ByteArray) : halfS (secS turn 0 s 0 :: zsec :: R) = ⟨turn, [s], 1⟩ := by
  have hp : partsN s.size = 1 := by unfold partsN; split <;> omega
  have hT : turnOf (secS turn 0 s 0) = turn := turnOf_secS turn 0 s 0 ht
  have h1 : readS turn ([] : List ByteArray).length ((secS turn 0 s 0 :: zsec :: R).drop 0) = some s := readS_one turn 0 s _ hs
  have hl : halfLoop turn (secS turn 0 s 0 :: zsec :: R) (secS turn 0 s 0 :: zsec :: R).length [] 0 = ([s], 1) := by
    generalize secS turn 0 s 0 = x at h1
    have e : (x :: zsec :: R).length = R.length + 1 + 1 := rfl
    rw [e, loop_some turn _ _ [] 0 s (by rw [e]; omega) h1, hp]
    have h2 : readS turn ([] ++ [s]).length ((x :: zsec :: R).drop (0 + 1)) = none := readS_zero turn _ R
    rw [loop_none turn _ _ ([] ++ [s]) (0 + 1) (by rw [e]; omega) h2]
    rfl
  rw [halfS_cons, hT, if_neg h0, hl, if_neg (by simp)]
end Go.Proofs.YtbhoeiopckmfhaaGreatDoor

namespace Go.Proofs.YtbhoeiopckmfhaaGreatDoor
open Go.RowKit

theorem infoIntD : (Tryz.prog.info? 3).map (fun i => (i.zero, i.size, i.bytes)) = some (some (.int .i64 0), 1, 8) := by kernel_rfl
theorem and_low (c : Nat) (h : c < 256) : bits .and .u8 (c : Int) 15 = (c : Int) % 16 := by
  rw [show (15 : Int) = ((15 : Nat) : Int) from rfl, u8_and_nat _ _ h (by omega)]
  have : c &&& 15 = c % 16 := Nat.and_two_pow_sub_one_eq_mod c 4
  rw [this]
  omega

set_option maxHeartbeats 400000 in
theorem halves_any (b : UInt8) (w : World) :
    Calls Tryz.prog 172 #[.int .u8 b.toNat] w fun e w' => e = .returned (.agg #[.int .i64 ((b.toNat : Int) / 16), .int .i64 ((b.toNat : Int) % 16)]) ∧ Below w.heap.size w w' := by
  have hc := b.toNat_lt
  have hl := and_low b.toNat hc
  generalize b.toNat = c at hc hl
  have b4 : (c : Int) / 16 < 16 := by omega
  have b5 : (c : Int) / 16 < 256 := by omega
  go_enter Tryz.func172, Tryz.ntmps172
  go_wp2
  exact bodyPost_ret (v := .agg #[.int .i64 ((c : Int) / 16), .int .i64 ((c : Int) % 16)]) (by simp [results, Tryz.results172, go_sem]) rfl ⟨rfl, (Below.refl _ _).alloc (Nat.le_refl _) _⟩

set_option maxHeartbeats 400000 in
theorem dsum_any (v : Value) (L : List Int) (w : World) (hv : IntsAt w v L) (hL : ∀ x ∈ L, 0 ≤ x ∧ x ≤ 15) (hn : L.length ≤ 1000000) :
    Calls Tryz.prog 174 #[v] w fun e w' => e = .returned (.int .i64 (sumI L)) ∧ w = w' := by
  obtain ⟨a, cap, rfl, hc⟩ := hv
  have HC := Lib.hid hc
  have HL := Lib.hid hL
  clear hc hL
  go_enter Tryz.func174, Tryz.ntmps174
  go_wp2
  go_loop [3, 8] (fun nv iv => ∃ k : Nat, k ≤ L.length ∧ iv = .int .i64 k ∧ nv = .int .i64 (sumI (L.take k))) (fun _ iv => L.length - (intOf iv).toNat)
  case atStart => exact ⟨0, Nat.zero_le _, rfl, rfl⟩
  case round =>
    obtain ⟨k, hk, rfl, rfl⟩ := hrel
    by_cases hlt : k < L.length
    · obtain ⟨g, o, rfl, hcell⟩ := HC.out k hlt
      have hx := HL.out L[k] (List.getElem_mem hlt)
      have hs := sumI_bd (L.take k) (fun x hx => HL.out x (List.mem_of_mem_take hx))
      have hsn : sumI (L.take (k + 1)) = sumI (L.take k) + L[k] := by rw [List.take_succ_eq_append_getElem hlt, sumI_snoc]
      have hlk : (L.take k).length ≤ L.length := by simp; omega
      generalize L[k] = x at hcell hx hsn
      have HS := Lib.hid hsn
      clear hsn
      generalize sumI (L.take k) = m at hs HS ⊢
      have b1 : (0 : Int) ≤ (k : Int) := by omega
      have b2 : (k : Int) < (L.length : Int) := by omega
      go_wp2
      go_round
      case rel => exact ⟨k + 1, by omega, by go_num, by rw [HS.out]⟩
      case measure => simp [intOf]; omega
    · have : k = L.length := by omega
      subst this
      go_wp2
      go_ret
      exact ⟨rfl, rfl⟩

set_option maxHeartbeats 800000 in
theorem dleft_any (v : Value) (L : List Int) (w : World) (hv : IntsAt w v L) (hn : L.length ≤ 1000000) :
    Calls Tryz.prog 175 #[v] w fun e w' => ∃ v', e = .returned v' ∧ IntsAt w' v' (lefts L) ∧ w.grownBy w' none := by
  obtain ⟨i0, hi, hz0, hz1, hz2⟩ := info_parts infoIntD
  obtain ⟨a, cap, rfl, hc⟩ := hv
  have HC := Lib.hid hc
  clear hc
  go_enter Tryz.func175, Tryz.ntmps175
  go_wp2_with (at_make; refine wpList_make_full _ rfl _ _ 224 rfl w.heap.size 3 i0 (.int .i64 0) 1 Tryz.underlying224 hi hz0 hz1 _ _ _ _ L.length rfl rfl rfl rfl ?c1 ?c2 ?c3 ?_)
  case c1 => rw [hz2]; omega
  case c2 => unfold maxLen; omega
  case c3 => omega
  intro w1 hown hg
  have hrow : ∀ k, k ≤ L.length → ((madeCells #[Value.int .i64 0] L.length).toList = ints (lefts (L.take 0) ++ List.replicate (L.length - 0) 0)) := by
    intro k hk
    apply List.ext_getElem?
    intro i
    simp [madeCells, ints, lefts, List.getElem?_replicate]
    by_cases h : i < L.length <;> simp [h, Nat.mod_one]
  rw [hrow 0 (Nat.zero_le _)] at hown
  have HO := Lib.hid hown
  have HG := Lib.hid hg
  clear hown hg hrow
  go_wp2_with fail
  go_loopw [4, 5, 11] (fun _ _ i wr => ∃ k : Nat, k ≤ L.length ∧ i = .int .i64 k ∧ Hid (wr.ownsRow w.heap.size 3 1 (.slice (some ⟨w.heap.size, 0, none⟩) L.length L.length) L.length (ints (lefts (L.take k) ++ List.replicate (L.length - k) 0))) ∧ Hid (w.grownBy wr none))
    (fun _ _ i _ => L.length - (intOf i).toNat)
  case atStart => exact ⟨0, Nat.zero_le _, rfl, HO.out, HG.out⟩
  case round =>
    clear HO HG
    obtain ⟨k, hk, rfl, HO, HG⟩ := hrel
    by_cases hlt : k < L.length
    · obtain ⟨g, o, rfl, hcell⟩ := HC.out k hlt
      have hcell' : wr.cell? ⟨g, o + k, none⟩ = some (.int .i64 L[k]) := HG.out.cell hcell (by simp)
      have hsn : lefts (L.take (k + 1)) = lefts (L.take k) ++ [leftI L[k]] := by rw [List.take_succ_eq_append_getElem hlt]; unfold lefts; rw [List.map_append]; rfl
      have hset : (ints (lefts (L.take k) ++ List.replicate (L.length - k) 0)).set k (.int .i64 (leftI L[k])) = ints (lefts (L.take (k + 1)) ++ List.replicate (L.length - (k + 1)) 0) := by
        have hll : (lefts (L.take k)).length = k := by rw [lefts_length]; simp; omega
        rw [hsn, show L.length - k = (L.length - (k + 1)) + 1 from by omega, List.replicate_succ, ints_append, List.set_append_right _ _ (by rw [ints_length]; omega), ints_length, hll, Nat.sub_self]
        simp [ints]
      have hat : wr.cell? ⟨w.heap.size, k, none⟩ = some (.int .i64 0) := by
        rw [HO.out.cellAt k (by omega), ints_append, List.getElem?_append_right (by rw [ints_length, lefts_length]; simp; omega), ints_length, lefts_length]
        simp [ints, List.getElem?_replicate]
        omega
      have hf := HO.out.frozenAt k
      have HS := Lib.hid hset
      clear hset hsn hcell
      generalize L[k] = x at hcell' HS
      have b1 : (0 : Int) ≤ (k : Int) := by omega
      have b2 : (k : Int) < (L.length : Int) := by omega
      by_cases hx : 0 ≤ x ∧ x ≤ 15
      · obtain ⟨hx0, hx1⟩ := hx
        go_wp2_with fail
        go_roundw
        case rel =>
          refine ⟨k + 1, by omega, by go_num, ?_, grownBy_setNew HG.out (Nat.le_refl _) _ _⟩
          show World.ownsRow _ _ _ _ _ _ _
          rw [← HS.out, leftI_yes x hx0 hx1]
          exact (HO.out.stored _ _).1
        case measure => simp [intOf]; omega
      · have hno := leftI_no x hx
        rw [hno] at HS
        have hz : (ints (lefts (L.take k) ++ List.replicate (L.length - k) 0)).set k (.int .i64 0) = ints (lefts (L.take k) ++ List.replicate (L.length - k) 0) := by
          have h0 := HO.out.cellAt k (by omega)
          rw [hat] at h0
          apply List.ext_getElem?
          intro i
          rw [List.getElem?_set]
          split
          · next h => subst h; rw [← h0]; simp; exact (List.getElem?_eq_some_iff.1 h0.symm).1
          · rfl
        rw [hz] at HS
        clear hno hz hf hat
        by_cases hx0 : 0 ≤ x
        · have hx1 : ¬ x ≤ 15 := fun h => hx ⟨hx0, h⟩
          clear hx
          go_wp2_with fail
          go_roundw
          case rel =>
            refine ⟨k + 1, by omega, by go_num, ?_, HG.out⟩
            show World.ownsRow _ _ _ _ _ _ _
            rw [← HS.out]
            exact HO.out
          case measure => simp [intOf]; omega
        · clear hx
          go_wp2_with fail
          go_roundw
          case rel =>
            refine ⟨k + 1, by omega, by go_num, ?_, HG.out⟩
            show World.ownsRow _ _ _ _ _ _ _
            rw [← HS.out]
            exact HO.out
          case measure => simp [intOf]; omega
    · have : k = L.length := by omega
      subst this
      have hr := HO.out
      rw [Nat.sub_self, List.take_of_length_le (Nat.le_refl _), List.replicate_zero, List.append_nil] at hr
      have hi := ints_of_own hr
      have HI := Lib.hid hi
      clear hr hi HO
      go_wp2_with fail
      go_ret
      exact ⟨_, rfl, HI.out, HG.out⟩

def sixQ (n : Int) : Nat → Int | 0 => n | 1 => n / 16 | 2 => n / 16 / 16 | _ => n / 16 / 16 / 16
def sixR (n : Int) : Nat → List Int | 0 => [0, 0, 0] | 1 => [0, 0, n % 16] | 2 => [0, n / 16 % 16, n % 16] | _ => [n / 16 / 16 % 16, n / 16 % 16, n % 16]

set_option maxHeartbeats 800000 in
theorem inSixteens_any (n : Int) (h0 : 0 ≤ n) (h1 : n ≤ 4095) (w : World) :
    Calls Tryz.prog 173 #[.int .i64 n] w fun e w' => e = .returned (.agg #[.int .i64 (n / 256), .int .i64 (n / 16 % 16), .int .i64 (n % 16)]) ∧ Below w.heap.size w w' := by
  go_enter Tryz.func173, Tryz.ntmps173
  go_wp2_with fail
  go_loopw [0, 4, 5] (fun nv _ iv wr => ∃ k : Nat, k ≤ 3 ∧ iv = .int .i64 k ∧ nv = .int .i64 (sixQ n k) ∧ Hid (wr.heap[w.heap.size + 1]? = some (.cells (ints (sixR n k)).toArray 254 (0, 0))) ∧ Hid (wr.heap[w.heap.size]? = some (.cells (ints [0, 0, 0]).toArray 254 (0, 0))) ∧ Hid (w.grownBy wr none)) (fun _ _ iv _ => 3 - (intOf iv).toNat)
  case atStart =>
    refine ⟨0, Nat.zero_le _, rfl, rfl, ?_, ?_, grownBy_alloc' (grownBy_alloc' (World.grownBy.refl _ _) _) _⟩
    · show _ = _
      exact heap_alloc_at _ _ _ (by simp)
    · show _ = _
      rw [Below.heap_alloc _ _ _ (by simp)]
      exact heap_alloc_at _ _ _ rfl
  case round =>
    obtain ⟨k, hk, rfl, rfl, HC, HD, HG⟩ := hrel
    have hk4 : k = 0 ∨ k = 1 ∨ k = 2 ∨ k = 3 := by omega
    have c := cell_of HC.out
    have f := free_of HC.out
    rcases hk4 with rfl | rfl | rfl | rfl
    · have c2 := c 2
      have f2 := f 2
      clear c f
      simp [sixR, ints] at c2
      simp only [sixQ]
      go_wp2_with fail
      go_roundw
      case rel =>
        refine ⟨1, by omega, rfl, rfl, ?_, ?_, grownBy_setNew HG.out (by omega) _ _⟩
        · show _ = _
          rw [heap_setCell HC.out]
          rfl
        · show _ = _
          rw [heap_setCell_ne _ _ _ _ (by omega)]
          exact HD.out
      case measure => simp [intOf]
    · have c2 := c 1
      have f2 := f 1
      clear c f
      simp [sixR, ints] at c2
      simp only [sixQ]
      go_wp2_with fail
      go_roundw
      case rel =>
        refine ⟨2, by omega, rfl, rfl, ?_, ?_, grownBy_setNew HG.out (by omega) _ _⟩
        · show _ = _
          rw [heap_setCell HC.out]
          rfl
        · show _ = _
          rw [heap_setCell_ne _ _ _ _ (by omega)]
          exact HD.out
      case measure => simp [intOf]
    · have c2 := c 0
      have f2 := f 0
      clear c f
      simp [sixR, ints] at c2
      simp only [sixQ]
      go_wp2_with fail
      go_roundw
      case rel =>
        refine ⟨3, by omega, rfl, rfl, ?_, ?_, grownBy_setNew HG.out (by omega) _ _⟩
        · show _ = _
          rw [heap_setCell HC.out]
          rfl
        · show _ = _
          rw [heap_setCell_ne _ _ _ _ (by omega)]
          exact HD.out
      case measure => simp [intOf]
    · have d := cell_of HD.out
      have fd := free_of HD.out
      have c0 := c 0
      have c1 := c 1
      have c2 := c 2
      have d0 := d 0
      have d1 := d 1
      have d2 := d 2
      have f0 := fd 0
      have f1 := fd 1
      have f2 := fd 2
      clear c f d fd
      simp [sixR, ints] at c0 c1 c2 d0 d1 d2
      simp only [sixQ]
      go_wp2_with fail
      have e : n / 16 / 16 % 16 = n / 256 := by omega
      rw [e] at *
      have hW : (((wr.setCell ⟨w.heap.size, 0, none⟩ (.int .i64 (n / 256))).setCell ⟨w.heap.size, 1, none⟩ (.int .i64 (n / 16 % 16))).setCell ⟨w.heap.size, 2, none⟩ (.int .i64 (n % 16))).heap[w.heap.size]? = some (.cells (ints [n / 256, n / 16 % 16, n % 16]).toArray 254 (0, 0)) := by
        rw [heap_setCell (heap_setCell (heap_setCell HD.out 0 _) 1 _) 2 _]
        rfl
      refine bodyPost_ret (v := .agg (ints [n / 256, n / 16 % 16, n % 16]).toArray) (results_cell_row (p := 2) (ty := 254) (by kernel_rfl) _ _ w.heap.size 254 _ (0, 0) (.array 3 3) (by rfl) hW Tryz.underlying254 rfl (by kernel_rfl)) rfl ⟨rfl, ?_⟩
      exact below_grownBy (grownBy_setNew (grownBy_setNew (grownBy_setNew HG.out (Nat.le_refl _) _ _) (Nat.le_refl _) _ _) (Nat.le_refl _) _ _)
end Go.Proofs.YtbhoeiopckmfhaaGreatDoor

namespace Go.Proofs.YtbhoeiopckmfhaaGreatDoor
open Go.RowKit

theorem slice_two (B : Nat) (w : World) : (Instr.sliceAt 252 (.pointer (some ⟨B, 0, none⟩)) none none none).run Tryz.prog w = .ok (.slice (some ⟨B, 0, none⟩) 2 2) w := by
  have hl : Tryz.prog.arrayLen 252 = 2 := by kernel_rfl
  have he : Tryz.prog.elem 252 = 3 := by kernel_rfl
  obtain ⟨i0, h0⟩ : ∃ i0, Tryz.prog.info? 3 = some i0 := Option.isSome_iff_exists.1 (by kernel_rfl)
  have hc : Tryz.prog.cellsOf 3 = 1 := by kernel_rfl
  rw [run_sliceAt_array_all w 252 ⟨B, 0, none⟩ (by rw [hl, he]; exact Tryz.underlying252), hl, he, run_sizeOf w h0, hc]
  simp [Result.andThen, slicedAt, Addr.add]
theorem slice_three (B : Nat) (w : World) : (Instr.sliceAt 254 (.pointer (some ⟨B, 0, none⟩)) none none none).run Tryz.prog w = .ok (.slice (some ⟨B, 0, none⟩) 3 3) w := by
  have hl : Tryz.prog.arrayLen 254 = 3 := by kernel_rfl
  have he : Tryz.prog.elem 254 = 3 := by kernel_rfl
  obtain ⟨i0, h0⟩ : ∃ i0, Tryz.prog.info? 3 = some i0 := Option.isSome_iff_exists.1 (by kernel_rfl)
  have hc : Tryz.prog.cellsOf 3 = 1 := by kernel_rfl
  rw [run_sliceAt_array_all w 254 ⟨B, 0, none⟩ (by rw [hl, he]; exact Tryz.underlying254), hl, he, run_sizeOf w h0, hc]
  simp [Result.andThen, slicedAt, Addr.add]
theorem cells_new (w : World) (t : TypeId) (cs : List Value) : ∀ j u, cs[j]? = some u → (w.alloc (.cells cs.toArray t)).cell? ((⟨w.heap.size, 0, none⟩ : Addr).add j) = some u := by
  intro j u hj
  rw [show Addr.add ⟨w.heap.size, 0, none⟩ j = (⟨w.heap.size, j, none⟩ : Addr) from by simp [Addr.add]; omega, cell_of (heap_alloc_at w (.cells cs.toArray t) _ rfl)]
  simpa using hj
theorem ints_one (L : List Int) : ∀ u ∈ ints L, u.oneCell' = true := by
  intro u hu
  obtain ⟨x, _, rfl⟩ := List.mem_map.1 hu
  rfl

set_option maxHeartbeats 400000 in
theorem of_bad (s : ByteArray) (hs : s.size ≤ maxLen) (h : s.size ≠ 16) (w : World) :
    Calls Tryz.prog 146 #[.string s] w fun e w' => e = .returned (.tuple #[.slice none 0 0, .int .i64 1]) ∧ w = w' := by
  unfold maxLen at hs
  have hb : ((s.size : Int) != 16) = true := by simp; omega
  go_enter Tryz.func146, Tryz.ntmps146
  go_wp2
  go_ret2
  exact ⟨rfl, rfl⟩

set_option maxRecDepth 100000 in
set_option maxHeartbeats 800000 in
theorem of_ok (s : ByteArray) (h : s.size = 16) (w : World) :
    Calls Tryz.prog 146 #[.string s] w fun e w' => ∃ v, e = .returned (.tuple #[v, .int .i64 0]) ∧ IntsAt w' v (digs s.data.toList) ∧ w.grownBy w' none := by
  obtain ⟨i0, hi, hz0, hz1, hz2⟩ := info_parts infoIntD
  have hb : ((s.size : Int) != 16) = false := by simp; omega
  have H16 := Lib.hid h
  have hs1 : s.size ≤ 16 := by omega
  clear h
  go_enter Tryz.func146, Tryz.ntmps146
  go_wp2_with (at_make; refine wpList_make_own _ rfl _ _ 224 rfl w.heap.size 3 i0 (.int .i64 0) 1 Tryz.underlying224 hi hz0 hz1 _ _ _ 35 rfl rfl rfl ?c1 ?c2 ?c3 ?_)
  case c1 => rw [hz2]; omega
  case c2 => unfold maxLen; omega
  case c3 => omega
  intro w1 hown hg
  have HO := Lib.hid hown
  have HG := Lib.hid hg
  clear hown hg
  go_wp2_with fail
  go_loopw [4, 5, 6, 14] (fun lv _ _ iv wr => ∃ k : Nat, ∃ len : Nat, k ≤ 16 ∧ len = 2 * k ∧ iv = .int .i64 k ∧ lv = .slice (some ⟨w.heap.size, 0, none⟩) len 35 ∧ Hid (wr.ownsRow w.heap.size 3 1 (.slice (some ⟨w.heap.size, 0, none⟩) len 35) len (ints (digL (s.data.toList.take k)))) ∧ Hid (w.grownBy wr none)) (fun _ _ _ iv _ => 16 - (intOf iv).toNat)
  case atStart => exact ⟨0, 0, Nat.zero_le _, rfl, rfl, rfl, HO.out, HG.out⟩
  case round =>
    clear HO HG
    obtain ⟨k, len, hk, hlen, rfl, rfl, HO, HG⟩ := hrel
    by_cases hlt : k < 16
    · have hl35 : len + 2 ≤ 35 := by omega
      have HLN := Lib.hid hlen
      clear hlen
      have hks : k < s.size := by have := H16.out; omega
      have hsn := digL_take s k hks
      have b1 : (0 : Int) ≤ (k : Int) := by omega
      have b2 : (k : Int) < (s.size : Int) := by omega
      generalize hc : s[k] = c at hsn
      have HS := Lib.hid hsn
      have HCC := Lib.hid hc
      clear hsn hc
      have hbl := HO.out.lt w.heap.size rfl
      go_wp2_with fail
      rw [HCC.out]
      refine (halves_any c _).mono ?_
      rintro e w2 ⟨rfl, h2⟩
      have G2 := Lib.hid (grownBy_trans HG.out (grownBy_below h2))
      have HO2 := Lib.hid (own_kept HO.out (grownBy_below h2))
      clear h2 HO HG HCC
      have hsl := slice_two w2.heap.size
      go_wp2_with (refine wpList_append_fits _ rfl _ _ 224 rfl w.heap.size 3 i0 1 Tryz.underlying224 hi hz1 w.heap.size len 35 _ rfl (HO2.out.alloc _) ⟨w2.heap.size, 0, none⟩ 2 2 (ints [(c.toNat : Int) / 16, (c.toNat : Int) % 16]) rfl rfl ?q1 ?q2 ?q3 ?_)
      case q1 => exact cells_new w2 _ (ints [(c.toNat : Int) / 16, (c.toNat : Int) % 16])
      case q2 => exact ints_one _
      case q3 => omega
      intro w3 hown3 hg3
      have HO3 := Lib.hid hown3
      have HG3 : Hid (w.grownBy w3 none) := grownBy_below (((below_grownBy G2.out).alloc G2.out.size _).grown hg3 (by have := G2.out.size; simp; omega) (by intro r hr; cases hr; exact Nat.le_refl _))
      clear hown3 hg3 HO2 G2
      go_wp2_with fail
      go_roundw
      case rel =>
        refine ⟨k + 1, len + 2, by omega, by have := HLN.out; omega, by go_num, rfl, ?_, HG3.out⟩
        show World.ownsRow _ _ _ _ _ _ _
        rw [HS.out, ints_append]
        exact HO3.out
      case measure => simp [intOf]; omega
    · have : k = 16 := by omega
      subst this
      obtain rfl : len = 32 := by omega
      have hl16 : s.data.toList.length = 16 := H16.out
      have ho := HO.out
      rw [List.take_of_length_le (by omega)] at ho
      have hin := ints_of_own ho
      have hb1 := sum_lefts_bd s.data.toList
      have hb2 := lefts_bd (digL s.data.toList)
      have hb3 : (digL s.data.toList).length = 32 := by rw [digL_length]; omega
      have hD : digs s.data.toList = digL s.data.toList ++ chk (sumI (lefts (digL s.data.toList))) := rfl
      rw [hl16] at hb1
      have HO2 := Lib.hid ho
      have HI := Lib.hid hin
      have HB := Lib.hid (And.intro hb2 hb3)
      have HD := Lib.hid hD
      clear ho hin HO hb2 hb3 hD hl16
      generalize digL s.data.toList = L at hb1 HO2 HI HB HD
      have hbl := HO2.out.lt w.heap.size rfl
      go_wp2_with fail
      refine (dleft_any _ L _ HI.out (by rw [HB.out.2]; omega)).mono ?_
      rintro e w2 ⟨v2, rfl, h2, g2⟩
      have HI2 := Lib.hid h2
      have HO3 := Lib.hid (own_kept HO2.out g2)
      have HG3 := Lib.hid (grownBy_trans HG.out g2)
      clear h2 g2 HO2 HI HG
      go_wp2_with fail
      refine (dsum_any _ _ _ HI2.out HB.out.1 (by rw [lefts_length, HB.out.2]; omega)).mono ?_
      rintro e w' ⟨rfl, rfl⟩
      obtain ⟨n, hn⟩ : ∃ n, sumI (lefts L) = n := ⟨_, rfl⟩
      rw [hn] at hb1 HD ⊢
      clear hn
      go_wp2_with fail
      refine (inSixteens_any n hb1.1 (by omega) _).mono ?_
      rintro e w4 ⟨rfl, h4⟩
      have HO4 := Lib.hid (own_kept HO3.out (grownBy_below h4))
      have HG4 := Lib.hid (grownBy_trans HG3.out (grownBy_below h4))
      clear h4 HO3 HG3
      have hsl := slice_three w4.heap.size
      go_wp2_with (refine wpList_append_fits _ rfl _ _ 224 rfl w.heap.size 3 i0 1 Tryz.underlying224 hi hz1 w.heap.size 32 35 _ rfl (HO4.out.alloc _) ⟨w4.heap.size, 0, none⟩ 3 3 (ints (chk n)) rfl rfl ?r1 ?r2 ?r3 ?_)
      case r1 => exact cells_new w4 _ (ints (chk n))
      case r2 => exact ints_one _
      case r3 => omega
      intro w5 hown5 hg5
      have HG5 : Hid (w.grownBy w5 none) := grownBy_below (((below_grownBy HG4.out).alloc HG4.out.size _).grown hg5 (by have := HG4.out.size; simp; omega) (by intro r hr; cases hr; exact Nat.le_refl _))
      rw [← ints_append, ← HD.out] at hown5
      have HI5 := Lib.hid (ints_of_own hown5)
      clear hown5 hg5 HO4 HG4
      go_wp2_with fail
      go_ret2
      exact ⟨.slice (some ⟨w.heap.size, 0, none⟩) 35 35, rfl, HI5.out, HG5.out⟩
end Go.Proofs.YtbhoeiopckmfhaaGreatDoor

namespace Go.Proofs.YtbhoeiopckmfhaaGreatDoor
open Go.RowKit
attribute [local irreducible] shaL

theorem place_bytes (n c k : Nat) (hc : c < 256) (hk : k < 256) : [Value.int .u8 ((n : Int) / 16777216 % 256), .int .u8 ((n : Int) / 65536 % 256), .int .u8 ((n : Int) / 256 % 256), .int .u8 ((n : Int) % 256), .int .u8 (c : Int), .int .u8 (k : Int)] = u8s (placeL n c k) := by
  have h := four_bytes n
  have e : u8s (placeL n c k) = u8s (be n 4) ++ u8s [UInt8.ofNat c, UInt8.ofNat k] := by simp [placeL, u8s]
  rw [e, ← h]
  have e1 : (UInt8.ofNat c).toNat = c := by simp; omega
  have e2 : (UInt8.ofNat k).toNat = k := by simp; omega
  simp [u8s, e1, e2]

set_option maxHeartbeats 400000 in
set_option maxRecDepth 100000 in
theorem place_any (leaf chain step : Nat) (c k : Int) (hl : leaf ≤ 4294967295) (hc : chain < 256) (hk : step < 256) (ec : (chain : Int) = c) (ek : (step : Int) = k) (w : World) :
    Calls Tryz.prog 176 #[.int .i64 leaf, .int .i64 c, .int .i64 k] w fun e w' => e = .returned (.string (placeS leaf chain step)) ∧ w.grownBy w' none := by
  subst ec
  subst ek
  have b1 : (leaf : Int) / 16777216 < 256 := by omega
  have b2 : (chain : Int) < 256 := by omega
  have b3 : (step : Int) < 256 := by omega
  have hcv := row_string_w w _ (placeL leaf chain step) (place_bytes leaf chain step hc hk)
  rw [show (placeL leaf chain step).length = 6 from placeS_size leaf chain step, show (leaf : Int) / 16777216 % 256 = (leaf : Int) / 16777216 from by omega] at hcv
  have HP := Lib.hid (show str (placeL leaf chain step) = placeS leaf chain step from rfl)
  rw [HP.out] at hcv
  generalize placeS leaf chain step = S at hcv ⊢
  clear HP
  go_enter Tryz.func176, Tryz.ntmps176
  go_wp2_with fail
  go_ret
  exact ⟨rfl, World.grownBy_alloc _ _ _⟩

set_option maxHeartbeats 400000 in
set_option maxRecDepth 100000 in
theorem wopen_any (seed : ByteArray) (hs : seed.size ≤ 1000000000000) (w : World) (hr : ShaReady w) :
    Calls Tryz.prog 127 #[.string seed] w fun e w' => e = .returned (.string (openS seed)) ∧ w.grownBy w' none := by
  have HR := Lib.hid hr
  have ht := Lib.hid (tagged_new w 3 [seed] _ 1 3 rfl rfl rfl hr (by simp) (by simpa using hs))
  clear hr
  go_enter Tryz.func127, Tryz.ntmps127
  go_wp2_with fail
  refine ht.out.mono ?_
  rintro e w1 ⟨rfl, g1⟩
  have G1 := Lib.hid g1
  clear g1
  go_wp2_with fail
  go_ret
  exact ⟨rfl, G1.out⟩

set_option maxHeartbeats 400000 in
set_option maxRecDepth 100000 in
theorem secret_any (seed : ByteArray) (leaf chain : Nat) (hs : seed.size ≤ 1000000000000) (hl : leaf ≤ 4294967295) (hc : chain < 256) (w : World) (hr : ShaReady w) :
    Calls Tryz.prog 162 #[.string seed, .int .i64 leaf, .int .i64 chain] w fun e w' => e = .returned (.string (secretS seed leaf chain)) ∧ w.grownBy w' none := by
  have HR := Lib.hid hr
  have hp := Lib.hid (place_any leaf chain 0 chain 0 hl hc (by decide) rfl rfl w)
  clear hr
  go_enter Tryz.func162, Tryz.ntmps162
  go_wp2_with fail
  refine hp.out.mono ?_
  rintro e w1 ⟨rfl, g1⟩
  have G1 := Lib.hid g1
  clear g1
  have ht := Lib.hid (tagged_new w1 1 [seed, placeS leaf chain 0] _ 2 1 rfl rfl rfl (HR.out.grown G1.out) (by simp) (by
    intro s hs'
    simp at hs'
    rcases hs' with rfl | rfl
    · exact hs
    · rw [placeS_size]; omega))
  go_wp2_with fail
  refine ht.out.mono ?_
  rintro e w2 ⟨rfl, g2⟩
  have G2 := Lib.hid (grownBy_trans G1.out g2)
  clear g2
  go_wp2_with fail
  go_ret
  exact ⟨rfl, G2.out⟩

set_option maxHeartbeats 400000 in
set_option maxRecDepth 100000 in
theorem wwalk_any (o x : ByteArray) (leaf chain : Nat) (a b : Int) (ho : o.size ≤ 1000000000000) (hx : x.size ≤ 1000000000000) (hl : leaf ≤ 4294967295) (hc : chain < 256) (ha : -9223372036854775808 ≤ a ∧ a ≤ 9223372036854775807) (hb : -9223372036854775808 ≤ b ∧ b ≤ 9223372036854775807) (w : World) (hr : ShaReady w) :
    Calls Tryz.prog 148 #[.string o, .int .i64 leaf, .int .i64 chain, .int .i64 a, .int .i64 b, .string x] w fun e w' => e = .returned (.string (walkZ o leaf chain a b x)) ∧ w.grownBy w' none := by
  have HR := Lib.hid hr
  clear hr
  obtain ⟨p, hp⟩ : ∃ p : Nat, (max a 0).toNat = p := ⟨_, rfl⟩
  have HS := Lib.hid (fun n => walkS_size o leaf chain p n x 1000000000000 hx (by decide))
  have hpa : ((p : Nat) : Int) = max a 0 := by omega
  have HW : Hid (walkZ o leaf chain a b x = walkS o leaf chain p (min b 15 - p).toNat x) := by
    show _ = _
    unfold walkZ
    rw [hp, ← hpa]
  clear hp
  have HP := Lib.hid hpa
  clear hpa
  go_enter Tryz.func148, Tryz.ntmps148
  go_upto_region 1 with (fail)
  go_cut [13] (fun iv wx => iv = .int .i64 p ∧ w = wx)
  case first =>
    by_cases ha0 : 0 ≤ a
    · have e : a = p := by have := HP.out; omega
      subst e
      go_wp2
      all_goals
        go_meet
        case rel => exact ⟨by first | rfl | (congr 1; omega), rfl⟩
    · have e : p = 0 := by have := HP.out; omega
      subst e
      go_wp2
      all_goals
        go_meet
        case rel => exact ⟨by first | rfl | (congr 1; omega), rfl⟩
  case rest =>
    obtain ⟨rfl, rfl⟩ := hcut
    by_cases hb15 : b ≤ 15
    · go_wp2_with fail
      go_loopw [5, 13] (fun xv iv wr => ∃ k : Nat, ∃ y : ByteArray, p ≤ k ∧ (k = p ∨ k ≤ 15) ∧ (k = p ∨ (k : Int) ≤ b) ∧ iv = .int .i64 k ∧ xv = .string y ∧ Hid (y = walkS o leaf chain p (k - p) x) ∧ Hid (w.grownBy wr none)) (fun _ iv _ => (b - intOf iv).toNat)
      case atStart => exact ⟨p, x, Nat.le_refl _, .inl rfl, .inl rfl, rfl, rfl, by show _ = _; rw [Nat.sub_self]; rfl, World.grownBy.refl _ _⟩
      case round =>
        obtain ⟨k, y, hk, hk15, hkb, rfl, rfl, HY, HG⟩ := hrel
        by_cases hlt : (k : Int) < b
        · have hk2 : k < 15 := by omega
          have hys : y.size ≤ 1000000000000 := by rw [HY.out]; exact HS.out _
          have hpl := Lib.hid (place_any leaf chain k chain k hl hc (by omega) rfl rfl wr)
          clear hk15 hkb
          go_wp2_with fail
          refine hpl.out.mono ?_
          rintro e w1 ⟨rfl, g1⟩
          have G1 := Lib.hid (grownBy_trans HG.out g1)
          clear g1
          have ht := Lib.hid (tagged_new w1 2 [o, placeS leaf chain k, y] _ 3 2 rfl rfl rfl (HR.out.grown G1.out) (by simp) (by
            intro s hs'
            simp at hs'
            rcases hs' with rfl | rfl | rfl
            · exact ho
            · rw [placeS_size]; omega
            · exact hys))
          go_wp2_with fail
          refine ht.out.mono ?_
          rintro e w2 ⟨rfl, g2⟩
          have G2 := Lib.hid (grownBy_trans G1.out g2)
          clear g2
          go_wp2_with fail
          go_roundw
          case rel =>
            refine ⟨k + 1, _, by omega, by omega, by omega, by go_num, rfl, ?_, G2.out⟩
            show _ = _
            rw [show k + 1 - p = (k - p) + 1 from by omega, walkS_succ, ← HY.out, show p + (k - p) = k from by omega]
            rfl
          case measure => simp [intOf]; omega
        · have HF : Hid (y = walkZ o leaf chain a b x) := by
            show _ = _
            rw [HW.out, HY.out]
            congr 1
            have := HP.out
            omega
          clear hk15 hkb
          go_wp2_with fail
          go_ret
          exact ⟨by rw [HF.out]; rfl, HG.out⟩
    · go_wp2_with fail
      go_loopw [5, 13] (fun xv iv wr => ∃ k : Nat, ∃ y : ByteArray, p ≤ k ∧ (k = p ∨ k ≤ 15) ∧ (k = p ∨ (k : Int) ≤ 15) ∧ iv = .int .i64 k ∧ xv = .string y ∧ Hid (y = walkS o leaf chain p (k - p) x) ∧ Hid (w.grownBy wr none)) (fun _ iv _ => (15 - intOf iv).toNat)
      case atStart => exact ⟨p, x, Nat.le_refl _, .inl rfl, .inl rfl, rfl, rfl, by show _ = _; rw [Nat.sub_self]; rfl, World.grownBy.refl _ _⟩
      case round =>
        obtain ⟨k, y, hk, hk15, hkb, rfl, rfl, HY, HG⟩ := hrel
        by_cases hlt : (k : Int) < 15
        · have hk2 : k < 15 := by omega
          have hys : y.size ≤ 1000000000000 := by rw [HY.out]; exact HS.out _
          have hpl := Lib.hid (place_any leaf chain k chain k hl hc (by omega) rfl rfl wr)
          clear hk15 hkb
          go_wp2_with fail
          refine hpl.out.mono ?_
          rintro e w1 ⟨rfl, g1⟩
          have G1 := Lib.hid (grownBy_trans HG.out g1)
          clear g1
          have ht := Lib.hid (tagged_new w1 2 [o, placeS leaf chain k, y] _ 3 2 rfl rfl rfl (HR.out.grown G1.out) (by simp) (by
            intro s hs'
            simp at hs'
            rcases hs' with rfl | rfl | rfl
            · exact ho
            · rw [placeS_size]; omega
            · exact hys))
          go_wp2_with fail
          refine ht.out.mono ?_
          rintro e w2 ⟨rfl, g2⟩
          have G2 := Lib.hid (grownBy_trans G1.out g2)
          clear g2
          go_wp2_with fail
          go_roundw
          case rel =>
            refine ⟨k + 1, _, by omega, by omega, by omega, by go_num, rfl, ?_, G2.out⟩
            show _ = _
            rw [show k + 1 - p = (k - p) + 1 from by omega, walkS_succ, ← HY.out, show p + (k - p) = k from by omega]
            rfl
          case measure => simp [intOf]; omega
        · have HF : Hid (y = walkZ o leaf chain a b x) := by
            show _ = _
            rw [HW.out, HY.out]
            congr 1
            have := HP.out
            omega
          clear hk15 hkb
          go_wp2_with fail
          go_ret
          exact ⟨by rw [HF.out]; rfl, HG.out⟩
end Go.Proofs.YtbhoeiopckmfhaaGreatDoor

namespace Go.Proofs.YtbhoeiopckmfhaaGreatDoor
open Go.ChangeShapes Go.WideShapes Go.ChangeAt Go.RowKit

variable {H : Type} {enc : TypeId × Value → H} {P : Program}

/-- The row's post where nothing that was there has turned ('again' is false: nothing is asked of what is frozen). -/
theorem post_of_below {f : Func} {s : ChangeSpec} {apart fresh handsOn : Bool} {W W' : World} {args : Array Value} {v : Value} {ds gs : List (DataW H)} {before pa pv : List MemPlace}
    (hW : DataW.Whole enc P f.params.toList s.vars apart W args.toList ds gs before)
    (hres : ∀ (b : Nat) (sp : Nat → Bool) (hd : Bool), DataW.TrodAll enc P W' b sp hd f.resultTypes.toList (v.resultList f.resultTypes.size) (s.fn H (ds ++ gs)).results [])
    (hargs : ∀ sp : Nat → Bool, (∀ p ∈ before, sp p.block = true) → DataW.TrodAll enc P W' 0 sp true f.params.toList args.toList (s.fn H (ds ++ gs)).args pa)
    (hvars : ∀ sp : Nat → Bool, (∀ p ∈ before, sp p.block = true) → DataW.TrodVars enc P W' sp s.vars (s.fn H (ds ++ gs)).vars pv)
    (hps : before = pa ++ pv) (hk : Below W.heap.size W W') :
    s.post enc P f apart fresh handsOn false W args v W' := by
  have hold : ∀ p ∈ before, (fun b => decide (b < W.heap.size)) p.block = true := fun p hp => by simpa using hW.lt p hp
  refine ⟨ds, gs, before, [], pa, pv, hW, hres _ _ _, hargs _ hold, hvars _ hold, World.keptBut_mono (fun p hp => ⟨hp, ?_⟩) (hk.frame (· ∈ before)), fun h => by cases h⟩
  rw [hps, List.mem_append] at hp
  exact Or.inr hp

/-- The same, what was handed in being read again by 'Below.trod'. -/
theorem post_of_below_at {f : Func} {s : ChangeSpec} {apart fresh handsOn : Bool} {W W' : World} {args : Array Value} {v : Value} {ds gs : List (DataW H)} {before pa pv : List MemPlace}
    (hW : DataW.Whole enc P f.params.toList s.vars apart W args.toList ds gs before)
    (hres : ∀ (b : Nat) (sp : Nat → Bool) (hd : Bool), DataW.TrodAll enc P W' b sp hd f.resultTypes.toList (v.resultList f.resultTypes.size) (s.fn H (ds ++ gs)).results [])
    (hargs : DataW.TrodAll enc P W' 0 (fun b => decide (b < W.heap.size)) true f.params.toList args.toList (s.fn H (ds ++ gs)).args pa)
    (hvars : DataW.TrodVars enc P W' (fun b => decide (b < W.heap.size)) s.vars (s.fn H (ds ++ gs)).vars pv)
    (hps : before = pa ++ pv) (hk : Below W.heap.size W W') :
    s.post enc P f apart fresh handsOn false W args v W' := by
  refine ⟨ds, gs, before, [], pa, pv, hW, hres _ _ _, hargs, hvars, World.keptBut_mono (fun p hp => ⟨hp, ?_⟩) (hk.frame (· ∈ before)), fun h => by cases h⟩
  rw [hps, List.mem_append] at hp
  exact Or.inr hp
end Go.Proofs.YtbhoeiopckmfhaaGreatDoor
