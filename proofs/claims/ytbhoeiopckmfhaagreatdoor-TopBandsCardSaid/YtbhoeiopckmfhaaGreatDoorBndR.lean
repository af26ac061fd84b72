/- The walk of band's joined: a range over slices.Chunk by two. -/
import Derived.Test.YtbhoeiopckmfhaaGreatDoorTopBandsB15
import Derived.Test.YtbhoeiopckmfhaaGreatDoorTopBandsB5
import Derived.Test.YtbhoeiopckmfhaaGreatDoorTopBandsB14
import Derived.RangeFuncBox
namespace Go.Proofs.YtbhoeiopckmfhaaGreatDoor
open Go.RowKit Go.Shelf
attribute [local irreducible] shaL
attribute [local go_sem] Oper.semAt_some

theorem results_joined {v : Value} {tmps : Array Value} {w : World} (h : tmps[2]? = some v) : (results Tryz.f75 tmps).run Tryz.prog w = .ok v w := by
  simp [results, Tryz.results75, go_sem, h]
theorem read_putB {w W : World} {n D : Nat} {o : Obj} (h : Below n w W) (hd : n ≤ D) : Below n w (W.putObj D o) :=
  h.trans ⟨rfl, rfl, rfl, by simp, fun k hk => World.putObj_heap_other (by omega)⟩
/-- the node above the x-th two -/
def twoN (L : List ByteArray) (m x : Nat) : ByteArray := joinN (entT L (2 * min x (m - 1))) (entT L (2 * min x (m - 1) + 1))
set_option maxRecDepth 100000 in
set_option maxHeartbeats 4000000 in
theorem joined_any (g o m cw : Nat) (L : List ByteArray) (w : World) (hr : ShaReady w) (hm0 : 0 < m) (hm : m ≤ 1000000) (hcw : 2 * m ≤ cw) (hL : L.length = 2 * m) (hv : StrsAt w (.slice (some ⟨g, o, none⟩) (2 * m) cw) L) (hs : ∀ s ∈ L, s.size ≤ 1000) (hg : g < w.heap.size) :
    Calls Tryz.prog 75 #[.slice (some ⟨g, o, none⟩) (2 * m) cw] w fun e w' => ∃ v, e = .returned v ∧ w'.ownsRow (w.heap.size + 3) 9 1 v m (strsV (joinedL L)) ∧ Below w.heap.size w w' := by
  obtain ⟨M2, hM2⟩ : ∃ k, 2 * m = k := ⟨_, rfl⟩
  have HM2 := Lib.hid hM2
  rw [hM2] at hv ⊢
  have HR := Lib.hid hr
  have HV := Lib.hid hv
  have HS := Lib.hid hs
  have HL := Lib.hid hL
  have HG := Lib.hid hg
  have HM := Lib.hid (And.intro hm0 (And.intro hm hcw))
  clear hr hv hs hL hg hm0 hm hcw hM2
  refine (callsIn_wide (n := 6)).1 ?_
  refine callsIn_of_wp_marks Tryz.func75 rfl trivial ?_ rfl
  simp only [Tryz.ntmps75, List.size_toArray, List.length_cons, List.length_nil, Nat.reduceAdd, Nat.reduceSub, Array.replicate_succ, Array.replicate_zero, List.push_toArray, List.append_toArray, List.nil_append, List.cons_append]
  refine wpIn_wide.2 ?_
  go_wp2_with fail
  have ba := Boxed.new w 33 (.slice none 0 0)
  have hB3 : Below w.heap.size w (w.alloc (.cells #[.slice none 0 0] 33)) := (Below.refl _ w).alloc (Nat.le_refl _) _
  have hs3 : (w.alloc (.cells #[.slice none 0 0] 33)).heap.size = w.heap.size + 1 := by simp
  obtain ⟨W3, hW3⟩ : ∃ W3, w.alloc (.cells #[.slice none 0 0] 33) = W3 := ⟨_, rfl⟩
  rw [hW3] at ba hB3 hs3 ⊢
  clear hW3
  generalize hn : w.heap.size = n at *
  have BI := Lib.hid ba
  have HS3 := Lib.hid hs3
  have HN := Lib.hid hn
  clear ba hs3 hn
  refine (chunk_any (some ⟨g, o, none⟩) M2 cw _).mono ?_
  rintro e w1 ⟨rfl, rfl⟩
  go_wp2_with fail
  rw [HS3.out]
  obtain ⟨W4, hW4⟩ : ∃ W4, (W3.alloc (.cells #[.slice (some ⟨g, o, none⟩) M2 cw] 33)).alloc (.cells #[.int .i64 2] 3) = W4 := ⟨_, rfl⟩
  have hs4 : W4.heap.size = n + 3 := by rw [← hW4]; simp [HS3.out]
  have hB4 : Below n w W4 := by rw [← hW4]; exact (hB3.alloc (by rw [HS3.out]; omega) _).alloc (by simp [HS3.out]; omega) _
  have B4 : Hid (Boxed W4 n 33 (.slice none 0 0) ∧ Boxed W4 (n + 1) 33 (.slice (some ⟨g, o, none⟩) M2 cw) ∧ Boxed W4 (n + 1 + 1) 3 (.int .i64 2)) := by
    rw [← hW4]
    refine ⟨(BI.out.alloc _).alloc _, ?_, ?_⟩
    · have := (Boxed.new W3 33 (.slice (some ⟨g, o, none⟩) M2 cw)).alloc (.cells #[.int .i64 2] 3); rwa [HS3.out] at this
    · have := Boxed.new (W3.alloc (.cells #[.slice (some ⟨g, o, none⟩) M2 cw] 33)) 3 (.int .i64 2); rwa [World.size_alloc, HS3.out] at this
  rw [hW4]
  clear hW4 hB3 HS3 BI
  have hg4 : w.grownBy W4 none := grownBy_below (by rw [HN.out]; exact hB4)
  have hv4 := Lib.hid (strs_grown HV.out hg4)
  have hmm := HM.out
  have hM2 := HM2.out
  refine (wpIn_wide (n := 6)).1 ?_
  refine wpIn_rangeFunc_ownH (F := Fence.wide) rfl (by decide) (gf := 160) (lb := #[.pointer (some ⟨n + 1, 0, none⟩), .pointer (some ⟨n + 1 + 1, 0, none⟩)]) rfl trivial (enters_of Tryz.func160 (by kernel_rfl) rfl)
    (chunk_stops Fence.wide 5 trivial rfl (by decide) (n + 1) (n + 3) n m cw g o hmm.1 hmm.2.1 hmm.2.2 (by omega) ⟨by omega, by omega⟩ W4 (by omega) (by rw [hM2]; exact B4.out.2.1.cell) B4.out.2.2.cell) (fun h k => h.then k) ?kb (Below.refl _ _) (fun _ => rfl)
    (fun pre W => (∃ v, Boxed W n 33 v ∧ W.ownsRow (n + 3) 9 1 v pre.length (strsV (pre.map (twoN L m))) ∧ True) ∧ Below n W4 W)
    (fun c pre W => False)
    ?own ?ownx
    ⟨⟨_, B4.out.1, World.ownsRow_nil _ _ _ _, trivial⟩, Below.refl _ _⟩
    (fun x' a' W => a' = { tmps := #[.slice (some ⟨g, o, none⟩) M2 cw, undef, .slice none 0 0, .pointer (some ⟨n, 0, none⟩), chunkV g o m x', .slice (some ⟨g, o, none⟩) M2 cw, .func (.func 160) #[] #[.pointer (some ⟨n + 1, 0, none⟩), .pointer (some ⟨n + 1 + 1, 0, none⟩)], chunkV g o m x', undef, undef, undef, undef, undef, undef, undef, undef, undef, undef, undef], defers := [] })
    (fun x' a' _ X Y row hs hg hr => hs)
    ?assign ?body ?done ?stop
  case kb => exact fun W l o o' hl ho h1 h2 => ⟨rfl, rfl, rfl, by simp, fun k hk hn2 => World.putObj_heap_other (fun e => hn2 (Or.inl (by omega)))⟩
  case own => 
    exact OwnFrom.and (Own.from (holdsRow_own (n + 3) n 33 9 1 (fun pre : List Nat => pre.length) (fun pre => strsV (pre.map (twoN L m))) (fun _ _ => True)) _) (ownFrom_below (by omega) (by omega))
  case ownx => exact fun c s X Y row hs _ _ => hs
  case assign =>
    rintro l pre x' W K ⟨⟨v, b1, hO, _⟩, hB⟩ hK
    gi_wp2
    exact hK _ _ (KeepsFrom.refl _ _) (Turn.refl _ _) ⟨⟨v, b1, hO, trivial⟩, hB⟩ rfl
  case body =>
    rintro l pre x' a' W hl ⟨r, hr⟩ ⟨⟨v, b1, hO, _⟩, hB⟩ rfl hlt
    have cx := b1.cell
    have fx := b1.frozen
    obtain ⟨i0, hti, hz0, hz1, hz2⟩ := info_parts infoStrW
    obtain ⟨q, hqe⟩ : ∃ q, min x' (m - 1) = q := ⟨_, rfl⟩
    have hqm : q < m := by omega
    have hcell : ∀ i, i < M2 → W.cell? ⟨g, o + i, none⟩ = some (.string (entT L i)) := by
      intro i hi
      obtain ⟨a, c, e, hh⟩ := hv4.out
      have hi' : i < L.length := by rw [HL.out, hM2]; exact hi
      obtain ⟨g', o', rfl, h1⟩ := hh i hi'
      injection e with e1 e2 e3
      injection e1 with e1
      injection e1 with e4 e5
      subst e4; subst e5
      have e9 : L[i] = entT L i := by have := entT_at L i hi'; rw [List.getElem?_eq_getElem hi'] at this; exact Option.some.inj this
      rw [← e9]
      exact (hB.cell (p := ⟨g, o + i, none⟩) (by have := HG.out; have := HN.out; show g < n; omega)).trans h1
    obtain ⟨E0, hE0⟩ : ∃ E, entT L (2 * q) = E := ⟨_, rfl⟩
    obtain ⟨E1, hE1⟩ : ∃ E, entT L (2 * q + 1) = E := ⟨_, rfl⟩
    obtain ⟨R, hR⟩ : ∃ k, o + 2 * q = k := ⟨_, rfl⟩
    have c0 := hcell (2 * q) (by omega)
    have c1 := hcell (2 * q + 1) (by omega)
    rw [hE0, hR] at c0
    rw [hE1, ← Nat.add_assoc, hR] at c1
    have hwW : w.grownBy W none := grownBy_below (by rw [HN.out]; exact hB4.trans hB)
    have HJ := Lib.hid (fun (w0 : World) (g : w.grownBy w0 none) => join_any E0 E1 (by have := entT_few L (2 * q) HS.out; rw [hE0] at this; omega) (by have := entT_few L (2 * q + 1) HS.out; rw [hE1] at this; omega) w0 (HR.out.grown g))
    have HTW : Hid (strsV (pre.map (twoN L m)) ++ [Value.string (joinN E0 E1)] = strsV ((pre ++ [x']).map (twoN L m))) := Lib.hid (by
      rw [List.map_append, push_strs]
      unfold twoN
      rw [List.map_cons, List.map_nil, hqe, hE0, hE1])
    have HSZ : Hid (pre.length + 1 ≤ maxLen ∧ (pre.length + 1) * 16 ≤ 140737488355328) := Lib.hid ⟨by unfold maxLen; omega, by omega⟩
    have HO := Lib.hid hO
    have hW3 : n + 3 ≤ W.heap.size := by have := hB.size; omega
    have hcv : chunkV g o m x' = .slice (some ⟨g, R, none⟩) 2 2 := by unfold chunkV; rw [hqe, hR]
    rw [hcv]
    clear hcell hcv hO hE0 hE1 hR
    gi_wp2_with fail
    refine wpIn_region_any (by kernel_rfl) ?_
    refine wpAny_round l (by rintro ⟨_, _, h⟩; exact h) (by rintro (_ | _ | _ | _ | _ | _ | _ | _ | _ | _ | _ | _) oo ho c <;> simp at ho <;> subst ho <;> simp) _ _ _ _ ?_
    try (change wpAny _ _ _ _ _ _ _ (World.drew _))
    refine wpAny_take (i := 1) (v := ?vjn_0) rfl (by kernel_rfl) (by kernel_rfl) (by kernel_rfl) (fun _ _ _ h => h) (Or.inl ⟨by rfl, ?hjn_0⟩) ?rjn_0
    case hjn_0 => (intro w0; go_simp; (try with_reducible rfl))
    try simp only [Act.put, List.setIfInBounds_toArray, List.set_cons_zero, List.set_cons_succ]
    refine wpAny_take (i := 2) (v := ?vjn_1) rfl (by kernel_rfl) (by kernel_rfl) (by kernel_rfl) (fun _ _ _ h => h) (Or.inl ⟨by rfl, ?hjn_1⟩) ?rjn_1
    case hjn_1 => (intro w0; go_simp; (try with_reducible rfl))
    try simp only [Act.put, List.setIfInBounds_toArray, List.set_cons_zero, List.set_cons_succ]
    refine wpAny_take (i := 4) (v := ?vjn_2) rfl (by kernel_rfl) (by kernel_rfl) (by kernel_rfl) (fun _ _ _ h => h) (Or.inl ⟨by rfl, ?hjn_2⟩) ?rjn_2
    case hjn_2 => (intro w0; go_simp; (try with_reducible rfl))
    try simp only [Act.put, List.setIfInBounds_toArray, List.set_cons_zero, List.set_cons_succ]
    refine wpAny_take (i := 5) (v := ?vjn_3) rfl (by kernel_rfl) (by kernel_rfl) (by kernel_rfl) (fun _ _ _ h => h) (Or.inl ⟨by rfl, ?hjn_3⟩) ?rjn_3
    case hjn_3 => (intro w0; go_simp; (try with_reducible rfl))
    try simp only [Act.put, List.setIfInBounds_toArray, List.set_cons_zero, List.set_cons_succ]
    refine wpAny_ready (rs := [0, 3, 6]) (by kernel_rfl) (by simp) ?_
    refine AllReady.cons rfl (fun K hK => ?ajn_5) ?bjn_5
    case ajn_5 =>
      go_simp
      refine hK _ _ ?_
      clear hK K
      try simp only [Act.put, List.setIfInBounds_toArray, List.set_cons_zero, List.set_cons_succ]
      refine wpAny_ready (rs := [3, 6]) (by kernel_rfl) (by simp) ?_
      refine AllReady.cons rfl (fun K hK => ?ajn_6) ?bjn_6
      case ajn_6 =>
        go_simp
        refine hK _ _ ?_
        clear hK K
        try simp only [Act.put, List.setIfInBounds_toArray, List.set_cons_zero, List.set_cons_succ]
        refine wpAny_ready (rs := [6]) (by kernel_rfl) (by simp) ?_
        refine AllReady.cons rfl (fun K hK => ?ajn_7) ?bjn_7
        case ajn_7 =>
          go_simp
          refine hK _ _ ?_
          clear hK K
          try simp only [Act.put, List.setIfInBounds_toArray, List.set_cons_zero, List.set_cons_succ]
          refine wpAny_ready (rs := [7]) (by kernel_rfl) (by simp) ?_
          refine AllReady.cons rfl (fun K hK => ?ajn_8) ?bjn_8
          case ajn_8 =>
            (go_simp; go_at_call 120; (with_reducible refine (HJ.out _ (grownBy_drew hwW)).mono ?_); rintro e w2 ⟨rfl, g2'⟩; have g2 : W.grownBy w2 none := grownBy_trans (grownBy_drew (World.grownBy.refl W none)) g2'; have cx2 : w2.cell? ⟨n, 0, none⟩ = some v := g2.cell cx (by simp); clear g2')
            refine hK _ _ ?_
            clear hK K
            try simp only [Act.put, List.setIfInBounds_toArray, List.set_cons_zero, List.set_cons_succ]
            refine wpAny_ready (rs := [8]) (by kernel_rfl) (by simp) ?_
            refine AllReady.cons rfl (fun K hK => ?ajn_9) ?bjn_9
            case ajn_9 =>
              go_simp
              refine hK _ _ ?_
              clear hK K
              try simp only [Act.put, List.setIfInBounds_toArray, List.set_cons_zero, List.set_cons_succ]
              refine wpAny_ready (rs := [9]) (by kernel_rfl) (by simp) ?_
              refine AllReady.cons rfl (fun K hK => ?ajn_10) ?bjn_10
              case ajn_10 =>
                (refine step_append_lies _ rfl (.tmp 8) (.tmp 16) 33 rfl (n + 3) 9 i0 (.string ⟨#[]⟩) 1 16 Tryz.underlying33 hti hz0 hz1 hz2 rfl (by decide) v pre.length (strsV (pre.map (twoN L m))) rfl ((ownsRow_stays HO.out g2).alloc _) ⟨w2.heap.size, 0, none⟩ 1 1 [.string (joinN E0 E1)] rfl rfl (lit_one w2 _) (one_textP _) (Nat.zero_lt_one) HSZ.out.1 HSZ.out.2 (by have := g2.size; simp; omega) _ rfl ?_; intro g8 c8 w8 ho8 hg8 _ _; rw [HTW.out] at ho8; have HF := append_round (B := W4.heap.size) (by decide) (by omega) hW3 hB b1 HO.out g2 ho8 hg8; have hc8 := HF.1.1; have hf8 := HF.1.2; clear hg8 ho8)
                refine hK _ _ ?_
                clear hK K
                try simp only [Act.put, List.setIfInBounds_toArray, List.set_cons_zero, List.set_cons_succ]
                refine wpAny_ready (rs := [10]) (by kernel_rfl) (by simp) ?_
                refine AllReady.cons rfl (fun K hK => ?ajn_11) ?bjn_11
                case ajn_11 =>
                  go_simp
                  refine hK _ _ ?_
                  clear hK K
                  try simp only [Act.put, List.setIfInBounds_toArray, List.set_cons_zero, List.set_cons_succ]
                  refine wpAny_done (by kernel_rfl) ?_ _
                  try dsimp only
                  (show KeepsFrom _ _ _ ∧ Turn _ _ _ ∧ (∃ v, Boxed _ _ _ v ∧ World.ownsRow _ _ _ _ v ((pre ++ [x']).length) _ ∧ True) ∧ _; rw [List.length_append]; exact HF.2)
                case bjn_11 =>
                  exact AllReady.nil
              case bjn_10 =>
                exact AllReady.nil
            case bjn_9 =>
              exact AllReady.nil
          case bjn_8 =>
            exact AllReady.nil
        case bjn_7 =>
          exact AllReady.nil
      case bjn_6 =>
        refine AllReady.cons rfl (fun K hK => ?ajn_12) ?bjn_12
        case ajn_12 =>
          go_simp
          refine hK _ _ ?_
          clear hK K
          try simp only [Act.put, List.setIfInBounds_toArray, List.set_cons_zero, List.set_cons_succ]
          refine wpAny_ready (rs := [3]) (by kernel_rfl) (by simp) ?_
          refine AllReady.cons rfl (fun K hK => ?ajn_13) ?bjn_13
          case ajn_13 =>
            go_simp
            refine hK _ _ ?_
            clear hK K
            try simp only [Act.put, List.setIfInBounds_toArray, List.set_cons_zero, List.set_cons_succ]
            refine wpAny_ready (rs := [7]) (by kernel_rfl) (by simp) ?_
            refine AllReady.cons rfl (fun K hK => ?ajn_14) ?bjn_14
            case ajn_14 =>
              (go_simp; go_at_call 120; (with_reducible refine (HJ.out _ (grownBy_drew hwW)).mono ?_); rintro e w2 ⟨rfl, g2'⟩; have g2 : W.grownBy w2 none := grownBy_trans (grownBy_drew (World.grownBy.refl W none)) g2'; have cx2 : w2.cell? ⟨n, 0, none⟩ = some v := g2.cell cx (by simp); clear g2')
              refine hK _ _ ?_
              clear hK K
              try simp only [Act.put, List.setIfInBounds_toArray, List.set_cons_zero, List.set_cons_succ]
              refine wpAny_ready (rs := [8]) (by kernel_rfl) (by simp) ?_
              refine AllReady.cons rfl (fun K hK => ?ajn_15) ?bjn_15
              case ajn_15 =>
                go_simp
                refine hK _ _ ?_
                clear hK K
                try simp only [Act.put, List.setIfInBounds_toArray, List.set_cons_zero, List.set_cons_succ]
                refine wpAny_ready (rs := [9]) (by kernel_rfl) (by simp) ?_
                refine AllReady.cons rfl (fun K hK => ?ajn_16) ?bjn_16
                case ajn_16 =>
                  (refine step_append_lies _ rfl (.tmp 8) (.tmp 16) 33 rfl (n + 3) 9 i0 (.string ⟨#[]⟩) 1 16 Tryz.underlying33 hti hz0 hz1 hz2 rfl (by decide) v pre.length (strsV (pre.map (twoN L m))) rfl ((ownsRow_stays HO.out g2).alloc _) ⟨w2.heap.size, 0, none⟩ 1 1 [.string (joinN E0 E1)] rfl rfl (lit_one w2 _) (one_textP _) (Nat.zero_lt_one) HSZ.out.1 HSZ.out.2 (by have := g2.size; simp; omega) _ rfl ?_; intro g8 c8 w8 ho8 hg8 _ _; rw [HTW.out] at ho8; have HF := append_round (B := W4.heap.size) (by decide) (by omega) hW3 hB b1 HO.out g2 ho8 hg8; have hc8 := HF.1.1; have hf8 := HF.1.2; clear hg8 ho8)
                  refine hK _ _ ?_
                  clear hK K
                  try simp only [Act.put, List.setIfInBounds_toArray, List.set_cons_zero, List.set_cons_succ]
                  refine wpAny_ready (rs := [10]) (by kernel_rfl) (by simp) ?_
                  refine AllReady.cons rfl (fun K hK => ?ajn_17) ?bjn_17
                  case ajn_17 =>
                    go_simp
                    refine hK _ _ ?_
                    clear hK K
                    try simp only [Act.put, List.setIfInBounds_toArray, List.set_cons_zero, List.set_cons_succ]
                    refine wpAny_done (by kernel_rfl) ?_ _
                    try dsimp only
                    (show KeepsFrom _ _ _ ∧ Turn _ _ _ ∧ (∃ v, Boxed _ _ _ v ∧ World.ownsRow _ _ _ _ v ((pre ++ [x']).length) _ ∧ True) ∧ _; rw [List.length_append]; exact HF.2)
                  case bjn_17 =>
                    exact AllReady.nil
                case bjn_16 =>
                  exact AllReady.nil
              case bjn_15 =>
                exact AllReady.nil
            case bjn_14 =>
              exact AllReady.nil
          case bjn_13 =>
            exact AllReady.nil
        case bjn_12 =>
          exact AllReady.nil
    case bjn_5 =>
      refine AllReady.cons rfl (fun K hK => ?ajn_18) ?bjn_18
      case ajn_18 =>
        go_simp
        refine hK _ _ ?_
        clear hK K
        try simp only [Act.put, List.setIfInBounds_toArray, List.set_cons_zero, List.set_cons_succ]
        refine wpAny_ready (rs := [0, 6]) (by kernel_rfl) (by simp) ?_
        refine AllReady.cons rfl (fun K hK => ?ajn_19) ?bjn_19
        case ajn_19 =>
          go_simp
          refine hK _ _ ?_
          clear hK K
          try simp only [Act.put, List.setIfInBounds_toArray, List.set_cons_zero, List.set_cons_succ]
          refine wpAny_ready (rs := [6]) (by kernel_rfl) (by simp) ?_
          refine AllReady.cons rfl (fun K hK => ?ajn_20) ?bjn_20
          case ajn_20 =>
            go_simp
            refine hK _ _ ?_
            clear hK K
            try simp only [Act.put, List.setIfInBounds_toArray, List.set_cons_zero, List.set_cons_succ]
            refine wpAny_ready (rs := [7]) (by kernel_rfl) (by simp) ?_
            refine AllReady.cons rfl (fun K hK => ?ajn_21) ?bjn_21
            case ajn_21 =>
              (go_simp; go_at_call 120; (with_reducible refine (HJ.out _ (grownBy_drew hwW)).mono ?_); rintro e w2 ⟨rfl, g2'⟩; have g2 : W.grownBy w2 none := grownBy_trans (grownBy_drew (World.grownBy.refl W none)) g2'; have cx2 : w2.cell? ⟨n, 0, none⟩ = some v := g2.cell cx (by simp); clear g2')
              refine hK _ _ ?_
              clear hK K
              try simp only [Act.put, List.setIfInBounds_toArray, List.set_cons_zero, List.set_cons_succ]
              refine wpAny_ready (rs := [8]) (by kernel_rfl) (by simp) ?_
              refine AllReady.cons rfl (fun K hK => ?ajn_22) ?bjn_22
              case ajn_22 =>
                go_simp
                refine hK _ _ ?_
                clear hK K
                try simp only [Act.put, List.setIfInBounds_toArray, List.set_cons_zero, List.set_cons_succ]
                refine wpAny_ready (rs := [9]) (by kernel_rfl) (by simp) ?_
                refine AllReady.cons rfl (fun K hK => ?ajn_23) ?bjn_23
                case ajn_23 =>
                  (refine step_append_lies _ rfl (.tmp 8) (.tmp 16) 33 rfl (n + 3) 9 i0 (.string ⟨#[]⟩) 1 16 Tryz.underlying33 hti hz0 hz1 hz2 rfl (by decide) v pre.length (strsV (pre.map (twoN L m))) rfl ((ownsRow_stays HO.out g2).alloc _) ⟨w2.heap.size, 0, none⟩ 1 1 [.string (joinN E0 E1)] rfl rfl (lit_one w2 _) (one_textP _) (Nat.zero_lt_one) HSZ.out.1 HSZ.out.2 (by have := g2.size; simp; omega) _ rfl ?_; intro g8 c8 w8 ho8 hg8 _ _; rw [HTW.out] at ho8; have HF := append_round (B := W4.heap.size) (by decide) (by omega) hW3 hB b1 HO.out g2 ho8 hg8; have hc8 := HF.1.1; have hf8 := HF.1.2; clear hg8 ho8)
                  refine hK _ _ ?_
                  clear hK K
                  try simp only [Act.put, List.setIfInBounds_toArray, List.set_cons_zero, List.set_cons_succ]
                  refine wpAny_ready (rs := [10]) (by kernel_rfl) (by simp) ?_
                  refine AllReady.cons rfl (fun K hK => ?ajn_24) ?bjn_24
                  case ajn_24 =>
                    go_simp
                    refine hK _ _ ?_
                    clear hK K
                    try simp only [Act.put, List.setIfInBounds_toArray, List.set_cons_zero, List.set_cons_succ]
                    refine wpAny_done (by kernel_rfl) ?_ _
                    try dsimp only
                    (show KeepsFrom _ _ _ ∧ Turn _ _ _ ∧ (∃ v, Boxed _ _ _ v ∧ World.ownsRow _ _ _ _ v ((pre ++ [x']).length) _ ∧ True) ∧ _; rw [List.length_append]; exact HF.2)
                  case bjn_24 =>
                    exact AllReady.nil
                case bjn_23 =>
                  exact AllReady.nil
              case bjn_22 =>
                exact AllReady.nil
            case bjn_21 =>
              exact AllReady.nil
          case bjn_20 =>
            exact AllReady.nil
        case bjn_19 =>
          refine AllReady.cons rfl (fun K hK => ?ajn_25) ?bjn_25
          case ajn_25 =>
            go_simp
            refine hK _ _ ?_
            clear hK K
            try simp only [Act.put, List.setIfInBounds_toArray, List.set_cons_zero, List.set_cons_succ]
            refine wpAny_ready (rs := [0, 7]) (by kernel_rfl) (by simp) ?_
            refine AllReady.cons rfl (fun K hK => ?ajn_26) ?bjn_26
            case ajn_26 =>
              go_simp
              refine hK _ _ ?_
              clear hK K
              try simp only [Act.put, List.setIfInBounds_toArray, List.set_cons_zero, List.set_cons_succ]
              refine wpAny_ready (rs := [7]) (by kernel_rfl) (by simp) ?_
              refine AllReady.cons rfl (fun K hK => ?ajn_27) ?bjn_27
              case ajn_27 =>
                (go_simp; go_at_call 120; (with_reducible refine (HJ.out _ (grownBy_drew hwW)).mono ?_); rintro e w2 ⟨rfl, g2'⟩; have g2 : W.grownBy w2 none := grownBy_trans (grownBy_drew (World.grownBy.refl W none)) g2'; have cx2 : w2.cell? ⟨n, 0, none⟩ = some v := g2.cell cx (by simp); clear g2')
                refine hK _ _ ?_
                clear hK K
                try simp only [Act.put, List.setIfInBounds_toArray, List.set_cons_zero, List.set_cons_succ]
                refine wpAny_ready (rs := [8]) (by kernel_rfl) (by simp) ?_
                refine AllReady.cons rfl (fun K hK => ?ajn_28) ?bjn_28
                case ajn_28 =>
                  go_simp
                  refine hK _ _ ?_
                  clear hK K
                  try simp only [Act.put, List.setIfInBounds_toArray, List.set_cons_zero, List.set_cons_succ]
                  refine wpAny_ready (rs := [9]) (by kernel_rfl) (by simp) ?_
                  refine AllReady.cons rfl (fun K hK => ?ajn_29) ?bjn_29
                  case ajn_29 =>
                    (refine step_append_lies _ rfl (.tmp 8) (.tmp 16) 33 rfl (n + 3) 9 i0 (.string ⟨#[]⟩) 1 16 Tryz.underlying33 hti hz0 hz1 hz2 rfl (by decide) v pre.length (strsV (pre.map (twoN L m))) rfl ((ownsRow_stays HO.out g2).alloc _) ⟨w2.heap.size, 0, none⟩ 1 1 [.string (joinN E0 E1)] rfl rfl (lit_one w2 _) (one_textP _) (Nat.zero_lt_one) HSZ.out.1 HSZ.out.2 (by have := g2.size; simp; omega) _ rfl ?_; intro g8 c8 w8 ho8 hg8 _ _; rw [HTW.out] at ho8; have HF := append_round (B := W4.heap.size) (by decide) (by omega) hW3 hB b1 HO.out g2 ho8 hg8; have hc8 := HF.1.1; have hf8 := HF.1.2; clear hg8 ho8)
                    refine hK _ _ ?_
                    clear hK K
                    try simp only [Act.put, List.setIfInBounds_toArray, List.set_cons_zero, List.set_cons_succ]
                    refine wpAny_ready (rs := [10]) (by kernel_rfl) (by simp) ?_
                    refine AllReady.cons rfl (fun K hK => ?ajn_30) ?bjn_30
                    case ajn_30 =>
                      go_simp
                      refine hK _ _ ?_
                      clear hK K
                      try simp only [Act.put, List.setIfInBounds_toArray, List.set_cons_zero, List.set_cons_succ]
                      refine wpAny_done (by kernel_rfl) ?_ _
                      try dsimp only
                      (show KeepsFrom _ _ _ ∧ Turn _ _ _ ∧ (∃ v, Boxed _ _ _ v ∧ World.ownsRow _ _ _ _ v ((pre ++ [x']).length) _ ∧ True) ∧ _; rw [List.length_append]; exact HF.2)
                    case bjn_30 =>
                      exact AllReady.nil
                  case bjn_29 =>
                    exact AllReady.nil
                case bjn_28 =>
                  exact AllReady.nil
              case bjn_27 =>
                exact AllReady.nil
            case bjn_26 =>
              refine AllReady.cons rfl (fun K hK => ?ajn_31) ?bjn_31
              case ajn_31 =>
                (go_simp; go_at_call 120; (with_reducible refine (HJ.out _ (grownBy_drew hwW)).mono ?_); rintro e w2 ⟨rfl, g2'⟩; have g2 : W.grownBy w2 none := grownBy_trans (grownBy_drew (World.grownBy.refl W none)) g2'; have cx2 : w2.cell? ⟨n, 0, none⟩ = some v := g2.cell cx (by simp); clear g2')
                refine hK _ _ ?_
                clear hK K
                try simp only [Act.put, List.setIfInBounds_toArray, List.set_cons_zero, List.set_cons_succ]
                refine wpAny_ready (rs := [0, 8]) (by kernel_rfl) (by simp) ?_
                refine AllReady.cons rfl (fun K hK => ?ajn_32) ?bjn_32
                case ajn_32 =>
                  go_simp
                  refine hK _ _ ?_
                  clear hK K
                  try simp only [Act.put, List.setIfInBounds_toArray, List.set_cons_zero, List.set_cons_succ]
                  refine wpAny_ready (rs := [8]) (by kernel_rfl) (by simp) ?_
                  refine AllReady.cons rfl (fun K hK => ?ajn_33) ?bjn_33
                  case ajn_33 =>
                    go_simp
                    refine hK _ _ ?_
                    clear hK K
                    try simp only [Act.put, List.setIfInBounds_toArray, List.set_cons_zero, List.set_cons_succ]
                    refine wpAny_ready (rs := [9]) (by kernel_rfl) (by simp) ?_
                    refine AllReady.cons rfl (fun K hK => ?ajn_34) ?bjn_34
                    case ajn_34 =>
                      (refine step_append_lies _ rfl (.tmp 8) (.tmp 16) 33 rfl (n + 3) 9 i0 (.string ⟨#[]⟩) 1 16 Tryz.underlying33 hti hz0 hz1 hz2 rfl (by decide) v pre.length (strsV (pre.map (twoN L m))) rfl ((ownsRow_stays HO.out g2).alloc _) ⟨w2.heap.size, 0, none⟩ 1 1 [.string (joinN E0 E1)] rfl rfl (lit_one w2 _) (one_textP _) (Nat.zero_lt_one) HSZ.out.1 HSZ.out.2 (by have := g2.size; simp; omega) _ rfl ?_; intro g8 c8 w8 ho8 hg8 _ _; rw [HTW.out] at ho8; have HF := append_round (B := W4.heap.size) (by decide) (by omega) hW3 hB b1 HO.out g2 ho8 hg8; have hc8 := HF.1.1; have hf8 := HF.1.2; clear hg8 ho8)
                      refine hK _ _ ?_
                      clear hK K
                      try simp only [Act.put, List.setIfInBounds_toArray, List.set_cons_zero, List.set_cons_succ]
                      refine wpAny_ready (rs := [10]) (by kernel_rfl) (by simp) ?_
                      refine AllReady.cons rfl (fun K hK => ?ajn_35) ?bjn_35
                      case ajn_35 =>
                        go_simp
                        refine hK _ _ ?_
                        clear hK K
                        try simp only [Act.put, List.setIfInBounds_toArray, List.set_cons_zero, List.set_cons_succ]
                        refine wpAny_done (by kernel_rfl) ?_ _
                        try dsimp only
                        (show KeepsFrom _ _ _ ∧ Turn _ _ _ ∧ (∃ v, Boxed _ _ _ v ∧ World.ownsRow _ _ _ _ v ((pre ++ [x']).length) _ ∧ True) ∧ _; rw [List.length_append]; exact HF.2)
                      case bjn_35 =>
                        exact AllReady.nil
                    case bjn_34 =>
                      exact AllReady.nil
                  case bjn_33 =>
                    exact AllReady.nil
                case bjn_32 =>
                  refine AllReady.cons rfl (fun K hK => ?ajn_36) ?bjn_36
                  case ajn_36 =>
                    go_simp
                    refine hK _ _ ?_
                    clear hK K
                    try simp only [Act.put, List.setIfInBounds_toArray, List.set_cons_zero, List.set_cons_succ]
                    refine wpAny_ready (rs := [0]) (by kernel_rfl) (by simp) ?_
                    refine AllReady.cons rfl (fun K hK => ?ajn_37) ?bjn_37
                    case ajn_37 =>
                      (have cx3 : (w2.alloc (.cells #[.string (joinN E0 E1)] 9)).cell? ⟨n, 0, none⟩ = some v := (World.grownBy_alloc w2 _ none).cell cx2 (by simp); go_simp)
                      refine hK _ _ ?_
                      clear hK K
                      try simp only [Act.put, List.setIfInBounds_toArray, List.set_cons_zero, List.set_cons_succ]
                      refine wpAny_ready (rs := [9]) (by kernel_rfl) (by simp) ?_
                      refine AllReady.cons rfl (fun K hK => ?ajn_38) ?bjn_38
                      case ajn_38 =>
                        (refine step_append_lies _ rfl (.tmp 8) (.tmp 16) 33 rfl (n + 3) 9 i0 (.string ⟨#[]⟩) 1 16 Tryz.underlying33 hti hz0 hz1 hz2 rfl (by decide) v pre.length (strsV (pre.map (twoN L m))) rfl ((ownsRow_stays HO.out g2).alloc _) ⟨w2.heap.size, 0, none⟩ 1 1 [.string (joinN E0 E1)] rfl rfl (lit_one w2 _) (one_textP _) (Nat.zero_lt_one) HSZ.out.1 HSZ.out.2 (by have := g2.size; simp; omega) _ rfl ?_; intro g8 c8 w8 ho8 hg8 _ _; rw [HTW.out] at ho8; have HF := append_round (B := W4.heap.size) (by decide) (by omega) hW3 hB b1 HO.out g2 ho8 hg8; have hc8 := HF.1.1; have hf8 := HF.1.2; clear hg8 ho8)
                        refine hK _ _ ?_
                        clear hK K
                        try simp only [Act.put, List.setIfInBounds_toArray, List.set_cons_zero, List.set_cons_succ]
                        refine wpAny_ready (rs := [10]) (by kernel_rfl) (by simp) ?_
                        refine AllReady.cons rfl (fun K hK => ?ajn_39) ?bjn_39
                        case ajn_39 =>
                          go_simp
                          refine hK _ _ ?_
                          clear hK K
                          try simp only [Act.put, List.setIfInBounds_toArray, List.set_cons_zero, List.set_cons_succ]
                          refine wpAny_done (by kernel_rfl) ?_ _
                          try dsimp only
                          (show KeepsFrom _ _ _ ∧ Turn _ _ _ ∧ (∃ v, Boxed _ _ _ v ∧ World.ownsRow _ _ _ _ v ((pre ++ [x']).length) _ ∧ True) ∧ _; rw [List.length_append]; exact HF.2)
                        case bjn_39 =>
                          exact AllReady.nil
                      case bjn_38 =>
                        exact AllReady.nil
                    case bjn_37 =>
                      exact AllReady.nil
                  case bjn_36 =>
                    exact AllReady.nil
              case bjn_31 =>
                exact AllReady.nil
          case bjn_25 =>
            exact AllReady.nil
      case bjn_18 =>
        refine AllReady.cons rfl (fun K hK => ?ajn_40) ?bjn_40
        case ajn_40 =>
          go_simp
          refine hK _ _ ?_
          clear hK K
          try simp only [Act.put, List.setIfInBounds_toArray, List.set_cons_zero, List.set_cons_succ]
          refine wpAny_ready (rs := [0, 3]) (by kernel_rfl) (by simp) ?_
          refine AllReady.cons rfl (fun K hK => ?ajn_41) ?bjn_41
          case ajn_41 =>
            go_simp
            refine hK _ _ ?_
            clear hK K
            try simp only [Act.put, List.setIfInBounds_toArray, List.set_cons_zero, List.set_cons_succ]
            refine wpAny_ready (rs := [3]) (by kernel_rfl) (by simp) ?_
            refine AllReady.cons rfl (fun K hK => ?ajn_42) ?bjn_42
            case ajn_42 =>
              go_simp
              refine hK _ _ ?_
              clear hK K
              try simp only [Act.put, List.setIfInBounds_toArray, List.set_cons_zero, List.set_cons_succ]
              refine wpAny_ready (rs := [7]) (by kernel_rfl) (by simp) ?_
              refine AllReady.cons rfl (fun K hK => ?ajn_43) ?bjn_43
              case ajn_43 =>
                (go_simp; go_at_call 120; (with_reducible refine (HJ.out _ (grownBy_drew hwW)).mono ?_); rintro e w2 ⟨rfl, g2'⟩; have g2 : W.grownBy w2 none := grownBy_trans (grownBy_drew (World.grownBy.refl W none)) g2'; have cx2 : w2.cell? ⟨n, 0, none⟩ = some v := g2.cell cx (by simp); clear g2')
                refine hK _ _ ?_
                clear hK K
                try simp only [Act.put, List.setIfInBounds_toArray, List.set_cons_zero, List.set_cons_succ]
                refine wpAny_ready (rs := [8]) (by kernel_rfl) (by simp) ?_
                refine AllReady.cons rfl (fun K hK => ?ajn_44) ?bjn_44
                case ajn_44 =>
                  go_simp
                  refine hK _ _ ?_
                  clear hK K
                  try simp only [Act.put, List.setIfInBounds_toArray, List.set_cons_zero, List.set_cons_succ]
                  refine wpAny_ready (rs := [9]) (by kernel_rfl) (by simp) ?_
                  refine AllReady.cons rfl (fun K hK => ?ajn_45) ?bjn_45
                  case ajn_45 =>
                    (refine step_append_lies _ rfl (.tmp 8) (.tmp 16) 33 rfl (n + 3) 9 i0 (.string ⟨#[]⟩) 1 16 Tryz.underlying33 hti hz0 hz1 hz2 rfl (by decide) v pre.length (strsV (pre.map (twoN L m))) rfl ((ownsRow_stays HO.out g2).alloc _) ⟨w2.heap.size, 0, none⟩ 1 1 [.string (joinN E0 E1)] rfl rfl (lit_one w2 _) (one_textP _) (Nat.zero_lt_one) HSZ.out.1 HSZ.out.2 (by have := g2.size; simp; omega) _ rfl ?_; intro g8 c8 w8 ho8 hg8 _ _; rw [HTW.out] at ho8; have HF := append_round (B := W4.heap.size) (by decide) (by omega) hW3 hB b1 HO.out g2 ho8 hg8; have hc8 := HF.1.1; have hf8 := HF.1.2; clear hg8 ho8)
                    refine hK _ _ ?_
                    clear hK K
                    try simp only [Act.put, List.setIfInBounds_toArray, List.set_cons_zero, List.set_cons_succ]
                    refine wpAny_ready (rs := [10]) (by kernel_rfl) (by simp) ?_
                    refine AllReady.cons rfl (fun K hK => ?ajn_46) ?bjn_46
                    case ajn_46 =>
                      go_simp
                      refine hK _ _ ?_
                      clear hK K
                      try simp only [Act.put, List.setIfInBounds_toArray, List.set_cons_zero, List.set_cons_succ]
                      refine wpAny_done (by kernel_rfl) ?_ _
                      try dsimp only
                      (show KeepsFrom _ _ _ ∧ Turn _ _ _ ∧ (∃ v, Boxed _ _ _ v ∧ World.ownsRow _ _ _ _ v ((pre ++ [x']).length) _ ∧ True) ∧ _; rw [List.length_append]; exact HF.2)
                    case bjn_46 =>
                      exact AllReady.nil
                  case bjn_45 =>
                    exact AllReady.nil
                case bjn_44 =>
                  exact AllReady.nil
              case bjn_43 =>
                exact AllReady.nil
            case bjn_42 =>
              exact AllReady.nil
          case bjn_41 =>
            refine AllReady.cons rfl (fun K hK => ?ajn_47) ?bjn_47
            case ajn_47 =>
              go_simp
              refine hK _ _ ?_
              clear hK K
              try simp only [Act.put, List.setIfInBounds_toArray, List.set_cons_zero, List.set_cons_succ]
              refine wpAny_ready (rs := [0, 7]) (by kernel_rfl) (by simp) ?_
              refine AllReady.cons rfl (fun K hK => ?ajn_48) ?bjn_48
              case ajn_48 =>
                go_simp
                refine hK _ _ ?_
                clear hK K
                try simp only [Act.put, List.setIfInBounds_toArray, List.set_cons_zero, List.set_cons_succ]
                refine wpAny_ready (rs := [7]) (by kernel_rfl) (by simp) ?_
                refine AllReady.cons rfl (fun K hK => ?ajn_49) ?bjn_49
                case ajn_49 =>
                  (go_simp; go_at_call 120; (with_reducible refine (HJ.out _ (grownBy_drew hwW)).mono ?_); rintro e w2 ⟨rfl, g2'⟩; have g2 : W.grownBy w2 none := grownBy_trans (grownBy_drew (World.grownBy.refl W none)) g2'; have cx2 : w2.cell? ⟨n, 0, none⟩ = some v := g2.cell cx (by simp); clear g2')
                  refine hK _ _ ?_
                  clear hK K
                  try simp only [Act.put, List.setIfInBounds_toArray, List.set_cons_zero, List.set_cons_succ]
                  refine wpAny_ready (rs := [8]) (by kernel_rfl) (by simp) ?_
                  refine AllReady.cons rfl (fun K hK => ?ajn_50) ?bjn_50
                  case ajn_50 =>
                    go_simp
                    refine hK _ _ ?_
                    clear hK K
                    try simp only [Act.put, List.setIfInBounds_toArray, List.set_cons_zero, List.set_cons_succ]
                    refine wpAny_ready (rs := [9]) (by kernel_rfl) (by simp) ?_
                    refine AllReady.cons rfl (fun K hK => ?ajn_51) ?bjn_51
                    case ajn_51 =>
                      (refine step_append_lies _ rfl (.tmp 8) (.tmp 16) 33 rfl (n + 3) 9 i0 (.string ⟨#[]⟩) 1 16 Tryz.underlying33 hti hz0 hz1 hz2 rfl (by decide) v pre.length (strsV (pre.map (twoN L m))) rfl ((ownsRow_stays HO.out g2).alloc _) ⟨w2.heap.size, 0, none⟩ 1 1 [.string (joinN E0 E1)] rfl rfl (lit_one w2 _) (one_textP _) (Nat.zero_lt_one) HSZ.out.1 HSZ.out.2 (by have := g2.size; simp; omega) _ rfl ?_; intro g8 c8 w8 ho8 hg8 _ _; rw [HTW.out] at ho8; have HF := append_round (B := W4.heap.size) (by decide) (by omega) hW3 hB b1 HO.out g2 ho8 hg8; have hc8 := HF.1.1; have hf8 := HF.1.2; clear hg8 ho8)
                      refine hK _ _ ?_
                      clear hK K
                      try simp only [Act.put, List.setIfInBounds_toArray, List.set_cons_zero, List.set_cons_succ]
                      refine wpAny_ready (rs := [10]) (by kernel_rfl) (by simp) ?_
                      refine AllReady.cons rfl (fun K hK => ?ajn_52) ?bjn_52
                      case ajn_52 =>
                        go_simp
                        refine hK _ _ ?_
                        clear hK K
                        try simp only [Act.put, List.setIfInBounds_toArray, List.set_cons_zero, List.set_cons_succ]
                        refine wpAny_done (by kernel_rfl) ?_ _
                        try dsimp only
                        (show KeepsFrom _ _ _ ∧ Turn _ _ _ ∧ (∃ v, Boxed _ _ _ v ∧ World.ownsRow _ _ _ _ v ((pre ++ [x']).length) _ ∧ True) ∧ _; rw [List.length_append]; exact HF.2)
                      case bjn_52 =>
                        exact AllReady.nil
                    case bjn_51 =>
                      exact AllReady.nil
                  case bjn_50 =>
                    exact AllReady.nil
                case bjn_49 =>
                  exact AllReady.nil
              case bjn_48 =>
                refine AllReady.cons rfl (fun K hK => ?ajn_53) ?bjn_53
                case ajn_53 =>
                  (go_simp; go_at_call 120; (with_reducible refine (HJ.out _ (grownBy_drew hwW)).mono ?_); rintro e w2 ⟨rfl, g2'⟩; have g2 : W.grownBy w2 none := grownBy_trans (grownBy_drew (World.grownBy.refl W none)) g2'; have cx2 : w2.cell? ⟨n, 0, none⟩ = some v := g2.cell cx (by simp); clear g2')
                  refine hK _ _ ?_
                  clear hK K
                  try simp only [Act.put, List.setIfInBounds_toArray, List.set_cons_zero, List.set_cons_succ]
                  refine wpAny_ready (rs := [0, 8]) (by kernel_rfl) (by simp) ?_
                  refine AllReady.cons rfl (fun K hK => ?ajn_54) ?bjn_54
                  case ajn_54 =>
                    go_simp
                    refine hK _ _ ?_
                    clear hK K
                    try simp only [Act.put, List.setIfInBounds_toArray, List.set_cons_zero, List.set_cons_succ]
                    refine wpAny_ready (rs := [8]) (by kernel_rfl) (by simp) ?_
                    refine AllReady.cons rfl (fun K hK => ?ajn_55) ?bjn_55
                    case ajn_55 =>
                      go_simp
                      refine hK _ _ ?_
                      clear hK K
                      try simp only [Act.put, List.setIfInBounds_toArray, List.set_cons_zero, List.set_cons_succ]
                      refine wpAny_ready (rs := [9]) (by kernel_rfl) (by simp) ?_
                      refine AllReady.cons rfl (fun K hK => ?ajn_56) ?bjn_56
                      case ajn_56 =>
                        (refine step_append_lies _ rfl (.tmp 8) (.tmp 16) 33 rfl (n + 3) 9 i0 (.string ⟨#[]⟩) 1 16 Tryz.underlying33 hti hz0 hz1 hz2 rfl (by decide) v pre.length (strsV (pre.map (twoN L m))) rfl ((ownsRow_stays HO.out g2).alloc _) ⟨w2.heap.size, 0, none⟩ 1 1 [.string (joinN E0 E1)] rfl rfl (lit_one w2 _) (one_textP _) (Nat.zero_lt_one) HSZ.out.1 HSZ.out.2 (by have := g2.size; simp; omega) _ rfl ?_; intro g8 c8 w8 ho8 hg8 _ _; rw [HTW.out] at ho8; have HF := append_round (B := W4.heap.size) (by decide) (by omega) hW3 hB b1 HO.out g2 ho8 hg8; have hc8 := HF.1.1; have hf8 := HF.1.2; clear hg8 ho8)
                        refine hK _ _ ?_
                        clear hK K
                        try simp only [Act.put, List.setIfInBounds_toArray, List.set_cons_zero, List.set_cons_succ]
                        refine wpAny_ready (rs := [10]) (by kernel_rfl) (by simp) ?_
                        refine AllReady.cons rfl (fun K hK => ?ajn_57) ?bjn_57
                        case ajn_57 =>
                          go_simp
                          refine hK _ _ ?_
                          clear hK K
                          try simp only [Act.put, List.setIfInBounds_toArray, List.set_cons_zero, List.set_cons_succ]
                          refine wpAny_done (by kernel_rfl) ?_ _
                          try dsimp only
                          (show KeepsFrom _ _ _ ∧ Turn _ _ _ ∧ (∃ v, Boxed _ _ _ v ∧ World.ownsRow _ _ _ _ v ((pre ++ [x']).length) _ ∧ True) ∧ _; rw [List.length_append]; exact HF.2)
                        case bjn_57 =>
                          exact AllReady.nil
                      case bjn_56 =>
                        exact AllReady.nil
                    case bjn_55 =>
                      exact AllReady.nil
                  case bjn_54 =>
                    refine AllReady.cons rfl (fun K hK => ?ajn_58) ?bjn_58
                    case ajn_58 =>
                      go_simp
                      refine hK _ _ ?_
                      clear hK K
                      try simp only [Act.put, List.setIfInBounds_toArray, List.set_cons_zero, List.set_cons_succ]
                      refine wpAny_ready (rs := [0]) (by kernel_rfl) (by simp) ?_
                      refine AllReady.cons rfl (fun K hK => ?ajn_59) ?bjn_59
                      case ajn_59 =>
                        (have cx3 : (w2.alloc (.cells #[.string (joinN E0 E1)] 9)).cell? ⟨n, 0, none⟩ = some v := (World.grownBy_alloc w2 _ none).cell cx2 (by simp); go_simp)
                        refine hK _ _ ?_
                        clear hK K
                        try simp only [Act.put, List.setIfInBounds_toArray, List.set_cons_zero, List.set_cons_succ]
                        refine wpAny_ready (rs := [9]) (by kernel_rfl) (by simp) ?_
                        refine AllReady.cons rfl (fun K hK => ?ajn_60) ?bjn_60
                        case ajn_60 =>
                          (refine step_append_lies _ rfl (.tmp 8) (.tmp 16) 33 rfl (n + 3) 9 i0 (.string ⟨#[]⟩) 1 16 Tryz.underlying33 hti hz0 hz1 hz2 rfl (by decide) v pre.length (strsV (pre.map (twoN L m))) rfl ((ownsRow_stays HO.out g2).alloc _) ⟨w2.heap.size, 0, none⟩ 1 1 [.string (joinN E0 E1)] rfl rfl (lit_one w2 _) (one_textP _) (Nat.zero_lt_one) HSZ.out.1 HSZ.out.2 (by have := g2.size; simp; omega) _ rfl ?_; intro g8 c8 w8 ho8 hg8 _ _; rw [HTW.out] at ho8; have HF := append_round (B := W4.heap.size) (by decide) (by omega) hW3 hB b1 HO.out g2 ho8 hg8; have hc8 := HF.1.1; have hf8 := HF.1.2; clear hg8 ho8)
                          refine hK _ _ ?_
                          clear hK K
                          try simp only [Act.put, List.setIfInBounds_toArray, List.set_cons_zero, List.set_cons_succ]
                          refine wpAny_ready (rs := [10]) (by kernel_rfl) (by simp) ?_
                          refine AllReady.cons rfl (fun K hK => ?ajn_61) ?bjn_61
                          case ajn_61 =>
                            go_simp
                            refine hK _ _ ?_
                            clear hK K
                            try simp only [Act.put, List.setIfInBounds_toArray, List.set_cons_zero, List.set_cons_succ]
                            refine wpAny_done (by kernel_rfl) ?_ _
                            try dsimp only
                            (show KeepsFrom _ _ _ ∧ Turn _ _ _ ∧ (∃ v, Boxed _ _ _ v ∧ World.ownsRow _ _ _ _ v ((pre ++ [x']).length) _ ∧ True) ∧ _; rw [List.length_append]; exact HF.2)
                          case bjn_61 =>
                            exact AllReady.nil
                        case bjn_60 =>
                          exact AllReady.nil
                      case bjn_59 =>
                        exact AllReady.nil
                    case bjn_58 =>
                      exact AllReady.nil
                case bjn_53 =>
                  exact AllReady.nil
            case bjn_47 =>
              exact AllReady.nil
        case bjn_40 =>
          exact AllReady.nil

  case done =>
    rintro D' xs W hD rfl ⟨⟨v, b1, hO, _⟩, hB⟩ hK
    have cx := b1.cell
    rw [List.length_range] at hO
    go_wp2_with fail
    refine ⟨by simp, .inl ⟨_, _, rfl, run_takeDeferred hK, ?_⟩⟩
    refine ⟨_, results_joined rfl, _, rfl, ?_, ?_⟩
    · have e9 : (List.range m).map (twoN L m) = joinedL L := by
        unfold joinedL
        rw [HL.out, Nat.mul_div_cancel_left _ (by decide)]
        refine List.map_congr_left fun k hk => ?_
        have := List.mem_range.1 hk
        unfold twoN
        rw [Nat.min_eq_left (by omega)]
      rw [← e9, HN.out]
      exact ownsRow_putObj hO _ hK rfl
    · rw [HN.out]
      exact read_putB (hB4.trans hB) (by omega)
  case stop =>
    rintro D' c pre W _ _ h
    exact h.elim
end Go.Proofs.YtbhoeiopckmfhaaGreatDoor
