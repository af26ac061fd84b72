/- The walks of the document's Encode and Value of an entry. -/
import Derived.Test.YtgaenpbdfelhhaaDoorEntryCodesB2
import Derived.Test.YtgaenpbdfelhhaaDoorRefTag
namespace Go.Proofs.YtgaenpbdfelhhaaDoor
open Go.RowKit
attribute [local irreducible] shaL

theorem conv1 (w : World) (c : Nat) (hc : c < 256) (b : Nat) (h : w.heap[b]? = some (.cells #[.int .u8 (c : Int)] 5 (0, 0))) :
    (convert 72 9 (.slice (some ⟨b, 0, none⟩) 1 1)).run Tryd.prog w = .ok (.string (str (be c 1))) w := by
  have e : (#[.int .u8 (c : Int)] : Array Value) = (u8s (be c 1)).toArray := by
    have h1 : be c 1 = [UInt8.ofNat (c % 256)] := by simp [be]
    have h2 : (UInt8.ofNat (c % 256)).toNat = c := by simp; omega
    rw [h1]
    show _ = (List.map (fun c : UInt8 => Value.int .u8 c.toNat) _).toArray
    simp only [List.map_cons, List.map_nil, h2]
  rw [e] at h
  have hl : (be c 1).length = 1 := be_length c 1
  have := row_string h 1
  rwa [hl] at this
theorem refNum4 (v : Nat) (hv : v ≤ 4294967295) (w : World) :
    Calls Tryd.prog 44 #[.int .u64 v, .int .i64 4] w fun e w' => e = .returned (.string (str (be v 4))) ∧ w.grownBy w' none := by
  have h := refNum_any v (by omega) 4 (by omega) w
  unfold refNum at h
  rwa [if_pos ⟨by omega, by omega, by show v < 4294967296; omega⟩] at h
set_option maxRecDepth 100000 in
set_option maxHeartbeats 1600000 in
theorem ref17enc_any (x : EntS) (hx : x.small) (w : World) :
    Calls Tryd.prog 23 #[x.val] w fun e w' => e = .returned (.tuple #[.string x.enc, .int .i64 x.err]) ∧ w.grownBy w' none := by
  obtain ⟨v, o, r, h, p⟩ := x
  have hv : v ≤ 18446744073709551615 := hx.v
  clear hx
  unfold EntS.val
  simp only
  have hb0 := heap_alloc_at w (.cells #[.int .u64 v, .string o, .string r, .int .i64 h, .string p] 54) _ rfl
  have hg0 : w.grownBy (w.alloc (.cells #[.int .u64 v, .string o, .string r, .int .i64 h, .string p] 54)) none := World.grownBy_alloc _ _ _
  obtain ⟨W0, hW0⟩ : ∃ W0, w.alloc (.cells #[.int .u64 v, .string o, .string r, .int .i64 h, .string p] 54) = W0 := ⟨_, rfl⟩
  rw [hW0] at hb0 hg0
  obtain ⟨x0, x1, x2, x3, x4⟩ := cells5 hb0
  have HB0 := Lib.hid hb0
  have HG0 := Lib.hid hg0
  have HW0 := Lib.hid hW0
  clear hb0 hg0 hW0
  by_cases hvv : v < 1 ∨ 4294967295 < v
  · obtain ⟨e1, e2⟩ := EntS.not_ver (x := ⟨v, o, r, h, p⟩) hvv
    rw [e1, e2]
    clear e1 e2 x1 x2 x3 x4
    by_cases h1 : v < 1
    · have q1 : (v : Int) < 1 := by omega
      clear hvv h1
      go_enter Tryd.func23, Tryd.ntmps23
      go_wp2_with (rw [HW0.out])
      go_returns
      exact ⟨rfl, HG0.out⟩
    · have q1 : ¬ (v : Int) < 1 := by omega
      have q2 : (4294967295 : Int) < (v : Int) := by omega
      clear hvv h1
      go_enter Tryd.func23, Tryd.ntmps23
      go_wp2_with (rw [HW0.out])
      go_returns
      exact ⟨rfl, HG0.out⟩
  · have q1 : ¬ (v : Int) < 1 := by omega
    have q2 : ¬ (4294967295 : Int) < (v : Int) := by omega
    by_cases hk : pubOk o r h ∧ p.size = 16
    · have he : (⟨v, o, r, h, p⟩ : EntS).err = 0 := EntS.of_fit ⟨by show 1 ≤ v ∧ v ≤ 4294967295; omega, hk⟩
      have henc : (⟨v, o, r, h, p⟩ : EntS).enc = str (be v 4 ++ (pubB o r h ++ p.data.toList)) := by unfold EntS.enc; rw [if_pos he]; rfl
      rw [he, henc]
      clear he henc
      obtain ⟨⟨⟨h0, h6⟩, k1, k2⟩, k3⟩ := hk
      obtain ⟨c, rfl⟩ := Int.eq_ofNat_of_zero_le h0
      have q3 : ¬ (c : Int) < 0 := by omega
      have q4 : ¬ (c : Int) > 6 := by omega
      have s1 : ((o.size : Int) == 16) = true := by simp; omega
      have s2 : ((r.size : Int) == 16) = true := by simp; omega
      have s3 : ((p.size : Int) == 16) = true := by simp; omega
      have t1 : ((o.size : Int) != 16) = false := by rw [bne, s1]; rfl
      have t2 : ((r.size : Int) != 16) = false := by rw [bne, s2]; rfl
      have t3 : ((p.size : Int) != 16) = false := by rw [bne, s3]; rfl
      have cu : IntKind.u8.wrap (c : Int) = (c : Int) := IntWalk.u8_in _ (by omega)
      have HNUM := Lib.hid (fun w' => refNum4 v (by omega) w')
      have hz4 : (str (be v 4)).size = 4 := by rw [str_size, be_length]
      have hzc : (str (be c 1)).size = 1 := by rw [str_size, be_length]
      have hcat : str (be v 4) ++ o ++ r ++ str (be c 1) ++ p = str (be v 4 ++ (pubB o r c ++ p.data.toList)) := by
        apply ByteArray.ext
        apply Array.toList_inj.1
        simp [str, pubB]
      have HCV := Lib.hid (fun (w' : World) (b : Nat) (q : w'.heap[b]? = some (.cells #[.int .u8 (c : Int)] 5 (0, 0))) => conv1 w' c (by omega) b q)
      obtain ⟨RES, hRES⟩ : ∃ RES, str (be v 4 ++ (pubB o r c ++ p.data.toList)) = RES := ⟨_, rfl⟩
      rw [hRES] at hcat ⊢
      generalize str (be v 4) = Z at HNUM hz4 hcat
      generalize str (be c 1) = C at HCV hzc hcat
      have HCAT := Lib.hid hcat
      have u1 : (9223372036854775807 < Z.size + o.size) = False := eq_false (by omega)
      have u2 : (9223372036854775807 < Z.size + o.size + r.size) = False := eq_false (by omega)
      have u3 : (9223372036854775807 < Z.size + o.size + r.size + C.size) = False := eq_false (by omega)
      have u4 : (9223372036854775807 < Z.size + o.size + r.size + C.size + p.size) = False := eq_false (by omega)
      have hcv0 := HCV.out (W0.alloc (.cells #[.int .u8 (c : Int)] 5)).drew W0.heap.size (heap_alloc_at W0 _ _ rfl)
      have hcv1 := HCV.out (W0.alloc (.cells #[.int .u8 (c : Int)] 5)) W0.heap.size (heap_alloc_at W0 _ _ rfl)
      have hcvN : ∀ w' : World, (convert 72 9 (.slice (some ⟨w'.heap.size, 0, none⟩) 1 1)).run Tryd.prog (w'.alloc (.cells #[.int .u8 (c : Int)] 5)) = .ok (.string C) (w'.alloc (.cells #[.int .u8 (c : Int)] 5)) := fun w' => HCV.out _ _ (heap_alloc_at w' _ _ rfl)
      clear hcat hRES hvv h0 h6 hv
      go_enter Tryd.func23, Tryd.ntmps23
      go_wp2_with (rw [HW0.out])
      obtain ⟨XB, hXB⟩ : ∃ XB, w.heap.size = XB := ⟨_, rfl⟩
      rw [hXB] at x0 x1 x2 x3 x4 HB0 ⊢
      have hck : ∀ w' : World, W0.grownBy w' none → w'.cell? ⟨XB, 0, none⟩ = some (.int .u64 v) ∧ w'.cell? ⟨XB, 1, none⟩ = some (.string o) ∧ w'.cell? ⟨XB, 2, none⟩ = some (.string r) ∧ w'.cell? ⟨XB, 3, none⟩ = some (.int .i64 c) ∧ w'.cell? ⟨XB, 4, none⟩ = some (.string p) := fun w' q => cells5 (q.heap HB0.out (by simp))
      have HCK := Lib.hid hck
      clear hck
      refine wp_region_held_drew (S := (fun w' => w'.cell? ⟨XB, 0, none⟩ = some (.int .u64 v) ∧ w'.cell? ⟨XB, 1, none⟩ = some (.string o) ∧ w'.cell? ⟨XB, 2, none⟩ = some (.string r) ∧ w'.cell? ⟨XB, 3, none⟩ = some (.int .i64 c) ∧ w'.cell? ⟨XB, 4, none⟩ = some (.string p))) (by kernel_rfl) ?hser (fun hHeld => ?rger)
      case hser => exact ⟨x0, x1, x2, x3, x4⟩
      case rger =>
        refine wpAnyH_take (i := 0) (v := ?ver_0) rfl (by kernel_rfl) (by kernel_rfl) (by kernel_rfl) (fun _ _ _ h => h) (Or.inl ⟨by kernel_rfl, ?her_0⟩) (by assumption) ?rer_0
        case her_0 => (intro w0 hSw; (try dsimp only at hSw); go_simp; (try with_reducible rfl))
        try simp only [Act.put, List.setIfInBounds_toArray, List.set_cons_zero, List.set_cons_succ]
        refine wpAnyH_take (i := 1) (v := ?ver_1) rfl (by kernel_rfl) (by kernel_rfl) (by kernel_rfl) (fun _ _ _ h => h) (Or.inl ⟨by kernel_rfl, ?her_1⟩) (by assumption) ?rer_1
        case her_1 => (intro w0 hSw; (try dsimp only at hSw); go_simp; (try with_reducible rfl))
        try simp only [Act.put, List.setIfInBounds_toArray, List.set_cons_zero, List.set_cons_succ]
        refine wpAnyH_take (i := 3) (v := ?ver_2) rfl (by kernel_rfl) (by kernel_rfl) (by kernel_rfl) (fun _ _ _ h => h) (Or.inl ⟨by kernel_rfl, ?her_2⟩) (by assumption) ?rer_2
        case her_2 => (intro w0 hSw; (try dsimp only at hSw); go_simp; (try with_reducible rfl))
        try simp only [Act.put, List.setIfInBounds_toArray, List.set_cons_zero, List.set_cons_succ]
        refine wpAnyH_take (i := 4) (v := ?ver_3) rfl (by kernel_rfl) (by kernel_rfl) (by kernel_rfl) (fun _ _ _ h => h) (Or.inl ⟨by kernel_rfl, ?her_3⟩) (by assumption) ?rer_3
        case her_3 => (intro w0 hSw; (try dsimp only at hSw); go_simp; (try with_reducible rfl))
        try simp only [Act.put, List.setIfInBounds_toArray, List.set_cons_zero, List.set_cons_succ]
        refine wpAnyH_take (i := 6) (v := ?ver_4) rfl (by kernel_rfl) (by kernel_rfl) (by kernel_rfl) (fun _ _ _ h => h) (Or.inl ⟨by kernel_rfl, ?her_4⟩) (by assumption) ?rer_4
        case her_4 => (intro w0 hSw; (try dsimp only at hSw); go_simp; (try with_reducible rfl))
        try simp only [Act.put, List.setIfInBounds_toArray, List.set_cons_zero, List.set_cons_succ]
        refine wpAnyH_take (i := 7) (v := ?ver_5) rfl (by kernel_rfl) (by kernel_rfl) (by kernel_rfl) (fun _ _ _ h => h) (Or.inl ⟨by kernel_rfl, ?her_5⟩) (by assumption) ?rer_5
        case her_5 => (intro w0 hSw; (try dsimp only at hSw); go_simp; (try with_reducible rfl))
        try simp only [Act.put, List.setIfInBounds_toArray, List.set_cons_zero, List.set_cons_succ]
        refine wpAnyH_take (i := 9) (v := ?ver_6) rfl (by kernel_rfl) (by kernel_rfl) (by kernel_rfl) (fun _ _ _ h => h) (Or.inl ⟨by kernel_rfl, ?her_6⟩) (by assumption) ?rer_6
        case her_6 => (intro w0 hSw; (try dsimp only at hSw); go_simp; (try with_reducible rfl))
        try simp only [Act.put, List.setIfInBounds_toArray, List.set_cons_zero, List.set_cons_succ]
        refine wpAnyH_take (i := 10) (v := ?ver_7) rfl (by kernel_rfl) (by kernel_rfl) (by kernel_rfl) (fun _ _ _ h => h) (Or.inl ⟨by kernel_rfl, ?her_7⟩) (by assumption) ?rer_7
        case her_7 => (intro w0 hSw; (try dsimp only at hSw); go_simp; (try with_reducible rfl))
        try simp only [Act.put, List.setIfInBounds_toArray, List.set_cons_zero, List.set_cons_succ]
        refine wpAnyH_take (i := 11) (v := ?ver_8) rfl (by kernel_rfl) (by kernel_rfl) (by kernel_rfl) (fun _ _ _ h => h) (Or.inl ⟨by kernel_rfl, ?her_8⟩) (by assumption) ?rer_8
        case her_8 => (intro w0 hSw; (try dsimp only at hSw); go_simp; (try with_reducible rfl))
        try simp only [Act.put, List.setIfInBounds_toArray, List.set_cons_zero, List.set_cons_succ]
        refine wpAnyH_take (i := 15) (v := ?ver_9) rfl (by kernel_rfl) (by kernel_rfl) (by kernel_rfl) (fun _ _ _ h => h) (Or.inl ⟨by kernel_rfl, ?her_9⟩) (by assumption) ?rer_9
        case her_9 => (intro w0 hSw; (try dsimp only at hSw); go_simp; (try with_reducible rfl))
        try simp only [Act.put, List.setIfInBounds_toArray, List.set_cons_zero, List.set_cons_succ]
        refine wpAnyH_take (i := 16) (v := ?ver_10) rfl (by kernel_rfl) (by kernel_rfl) (by kernel_rfl) (fun _ _ _ h => h) (Or.inl ⟨by kernel_rfl, ?her_10⟩) (by assumption) ?rer_10
        case her_10 => (intro w0 hSw; (try dsimp only at hSw); go_simp; (try with_reducible rfl))
        try simp only [Act.put, List.setIfInBounds_toArray, List.set_cons_zero, List.set_cons_succ]
        refine wpAnyH_ready (rs := [2, 12]) (by kernel_rfl) (by simp) ?_
        refine AllReadyH.cons rfl (fun K hK => ?aer_12) ?ber_12
        case aer_12 =>
          (go_simp; go_at_call 44; (with_reducible refine (HNUM.out _).mono ?_); rintro e w4 ⟨rfl, g4⟩; have ck : W0.grownBy w4 none := ⟨g4.os, g4.tape, g4.output, g4.size, g4.block⟩)
          refine hK.out _ _ ?ser_12 (fun hHeld => ?ter_12)
          case ser_12 => (first | with_reducible exact HCK.out _ (grownBy_drew (World.grownBy_alloc W0 _ none)) | with_reducible exact HCK.out _ ck | with_reducible exact HCK.out _ (grownBy_alloc' ck _))
          case ter_12 =>
            clear hK K
            try simp only [Act.put, List.setIfInBounds_toArray, List.set_cons_zero, List.set_cons_succ]
            refine wpAnyH_take (i := 5) (v := ?ver_12) rfl (by kernel_rfl) (by kernel_rfl) (by kernel_rfl) (fun _ _ _ h => h) (Or.inl ⟨by kernel_rfl, ?her_12⟩) (by assumption) ?rer_12
            case her_12 => (intro w0 hSw; (try dsimp only at hSw); go_simp; (try with_reducible rfl))
            try simp only [Act.put, List.setIfInBounds_toArray, List.set_cons_zero, List.set_cons_succ]
            refine wpAnyH_take (i := 8) (v := ?ver_13) rfl (by kernel_rfl) (by kernel_rfl) (by kernel_rfl) (fun _ _ _ h => h) (Or.inl ⟨by kernel_rfl, ?her_13⟩) (by assumption) ?rer_13
            case her_13 => (intro w0 hSw; (try dsimp only at hSw); go_simp; (try with_reducible rfl))
            try simp only [Act.put, List.setIfInBounds_toArray, List.set_cons_zero, List.set_cons_succ]
            refine wpAnyH_ready (rs := [12]) (by kernel_rfl) (by simp) ?_
            refine AllReadyH.cons rfl (fun K hK => ?aer_15) ?ber_15
            case aer_15 =>
              go_simp
              refine hK.out _ _ ?ser_15 (fun hHeld => ?ter_15)
              case ser_15 => (first | with_reducible exact HCK.out _ (grownBy_drew (World.grownBy_alloc W0 _ none)) | with_reducible exact HCK.out _ ck | with_reducible exact HCK.out _ (grownBy_alloc' ck _))
              case ter_15 =>
                clear hK K
                try simp only [Act.put, List.setIfInBounds_toArray, List.set_cons_zero, List.set_cons_succ]
                refine wpAnyH_ready (rs := [13]) (by kernel_rfl) (by simp) ?_
                refine AllReadyH.cons rfl (fun K hK => ?aer_16) ?ber_16
                case aer_16 =>
                  go_simp
                  refine hK.out _ _ ?ser_16 (fun hHeld => ?ter_16)
                  case ser_16 => (first | with_reducible exact HCK.out _ (grownBy_drew (World.grownBy_alloc W0 _ none)) | with_reducible exact HCK.out _ ck | with_reducible exact HCK.out _ (grownBy_alloc' ck _))
                  case ter_16 =>
                    clear hK K
                    try simp only [Act.put, List.setIfInBounds_toArray, List.set_cons_zero, List.set_cons_succ]
                    refine wpAnyH_take (i := 14) (v := ?ver_16) rfl (by kernel_rfl) (by kernel_rfl) (by kernel_rfl) (fun _ _ _ h => h) (Or.inl ⟨by kernel_rfl, ?her_16⟩) (by assumption) ?rer_16
                    case her_16 => (intro w0 hSw; (try dsimp only at hSw); go_simp; (try with_reducible rfl))
                    try simp only [Act.put, List.setIfInBounds_toArray, List.set_cons_zero, List.set_cons_succ]
                    refine wpAnyH_take (i := 17) (v := ?ver_17) rfl (by kernel_rfl) (by kernel_rfl) (by kernel_rfl) (fun _ _ _ h => h) (Or.inl ⟨by kernel_rfl, ?her_17⟩) (by assumption) ?rer_17
                    case her_17 => (intro w0 hSw; (try dsimp only at hSw); go_simp; (try with_reducible rfl))
                    try simp only [Act.put, List.setIfInBounds_toArray, List.set_cons_zero, List.set_cons_succ]
                    refine wpAnyH_ready (rs := [18]) (by kernel_rfl) (by simp) ?_
                    refine AllReadyH.cons rfl (fun K hK => ?aer_19) ?ber_19
                    case aer_19 =>
                      go_simp
                      refine hK.out _ _ ?ser_19 (fun hHeld => ?ter_19)
                      case ser_19 => (first | with_reducible exact HCK.out _ (grownBy_drew (World.grownBy_alloc W0 _ none)) | with_reducible exact HCK.out _ ck | with_reducible exact HCK.out _ (grownBy_alloc' ck _))
                      case ter_19 =>
                        clear hK K
                        try simp only [Act.put, List.setIfInBounds_toArray, List.set_cons_zero, List.set_cons_succ]
                        refine wpAnyH_ready (rs := [19]) (by kernel_rfl) (by simp) ?_
                        refine AllReadyH.cons rfl (fun K hK => ?aer_20) ?ber_20
                        case aer_20 =>
                          go_simp
                          refine hK.out _ _ ?ser_20 (fun hHeld => ?ter_20)
                          case ser_20 => (first | with_reducible exact HCK.out _ (grownBy_drew (World.grownBy_alloc W0 _ none)) | with_reducible exact HCK.out _ ck | with_reducible exact HCK.out _ (grownBy_alloc' ck _))
                          case ter_20 =>
                            clear hK K
                            try simp only [Act.put, List.setIfInBounds_toArray, List.set_cons_zero, List.set_cons_succ]
                            refine wpAnyH_done (by kernel_rfl) ?_ _
                            try dsimp only
                            (go_wp2_with fail; (try simp only [Act.put, List.setIfInBounds_toArray, List.set_cons_zero, List.set_cons_succ]); go_returns; (first | exact ⟨by rw [HCAT.out]; rfl, grownBy_trans HG0.out (grownBy_alloc' ck _)⟩ | exact ⟨by rw [HCAT.out]; rfl, grownBy_trans HG0.out ck⟩))
                        case ber_20 =>
                          exact AllReadyH.nil
                    case ber_19 =>
                      exact AllReadyH.nil
                case ber_16 =>
                  exact AllReadyH.nil
            case ber_15 =>
              exact AllReadyH.nil
        case ber_12 =>
          refine AllReadyH.cons rfl (fun K hK => ?aer_21) ?ber_21
          case aer_21 =>
            go_simp
            refine hK.out _ _ ?ser_21 (fun hHeld => ?ter_21)
            case ser_21 => (first | with_reducible exact HCK.out _ (grownBy_drew (World.grownBy_alloc W0 _ none)) | with_reducible exact HCK.out _ ck | with_reducible exact HCK.out _ (grownBy_alloc' ck _))
            case ter_21 =>
              clear hK K
              try simp only [Act.put, List.setIfInBounds_toArray, List.set_cons_zero, List.set_cons_succ]
              refine wpAnyH_ready (rs := [2, 13]) (by kernel_rfl) (by simp) ?_
              refine AllReadyH.cons rfl (fun K hK => ?aer_22) ?ber_22
              case aer_22 =>
                (go_simp; go_at_call 44; (with_reducible refine (HNUM.out _).mono ?_); rintro e w4 ⟨rfl, g4⟩; have ck : W0.grownBy w4 none := grownBy_trans (World.grownBy_alloc W0 (.cells #[.int .u8 (c : Int)] 5) none) ⟨g4.os, g4.tape, g4.output, g4.size, g4.block⟩; have hcv4 := HCV.out w4 W0.heap.size (g4.heap (heap_alloc_at W0 (.cells #[.int .u8 (c : Int)] 5) _ rfl) (by simp)))
                refine hK.out _ _ ?ser_22 (fun hHeld => ?ter_22)
                case ser_22 => (first | with_reducible exact HCK.out _ (grownBy_drew (World.grownBy_alloc W0 _ none)) | with_reducible exact HCK.out _ ck | with_reducible exact HCK.out _ (grownBy_alloc' ck _))
                case ter_22 =>
                  clear hK K
                  try simp only [Act.put, List.setIfInBounds_toArray, List.set_cons_zero, List.set_cons_succ]
                  refine wpAnyH_take (i := 5) (v := ?ver_22) rfl (by kernel_rfl) (by kernel_rfl) (by kernel_rfl) (fun _ _ _ h => h) (Or.inl ⟨by kernel_rfl, ?her_22⟩) (by assumption) ?rer_22
                  case her_22 => (intro w0 hSw; (try dsimp only at hSw); go_simp; (try with_reducible rfl))
                  try simp only [Act.put, List.setIfInBounds_toArray, List.set_cons_zero, List.set_cons_succ]
                  refine wpAnyH_take (i := 8) (v := ?ver_23) rfl (by kernel_rfl) (by kernel_rfl) (by kernel_rfl) (fun _ _ _ h => h) (Or.inl ⟨by kernel_rfl, ?her_23⟩) (by assumption) ?rer_23
                  case her_23 => (intro w0 hSw; (try dsimp only at hSw); go_simp; (try with_reducible rfl))
                  try simp only [Act.put, List.setIfInBounds_toArray, List.set_cons_zero, List.set_cons_succ]
                  refine wpAnyH_ready (rs := [13]) (by kernel_rfl) (by simp) ?_
                  refine AllReadyH.cons rfl (fun K hK => ?aer_25) ?ber_25
                  case aer_25 =>
                    go_simp
                    refine hK.out _ _ ?ser_25 (fun hHeld => ?ter_25)
                    case ser_25 => (first | with_reducible exact HCK.out _ (grownBy_drew (World.grownBy_alloc W0 _ none)) | with_reducible exact HCK.out _ ck | with_reducible exact HCK.out _ (grownBy_alloc' ck _))
                    case ter_25 =>
                      clear hK K
                      try simp only [Act.put, List.setIfInBounds_toArray, List.set_cons_zero, List.set_cons_succ]
                      refine wpAnyH_take (i := 14) (v := ?ver_25) rfl (by kernel_rfl) (by kernel_rfl) (by kernel_rfl) (fun _ _ _ h => h) (Or.inl ⟨by kernel_rfl, ?her_25⟩) (by assumption) ?rer_25
                      case her_25 => (intro w0 hSw; (try dsimp only at hSw); go_simp; (try with_reducible rfl))
                      try simp only [Act.put, List.setIfInBounds_toArray, List.set_cons_zero, List.set_cons_succ]
                      refine wpAnyH_take (i := 17) (v := ?ver_26) rfl (by kernel_rfl) (by kernel_rfl) (by kernel_rfl) (fun _ _ _ h => h) (Or.inl ⟨by kernel_rfl, ?her_26⟩) (by assumption) ?rer_26
                      case her_26 => (intro w0 hSw; (try dsimp only at hSw); go_simp; (try with_reducible rfl))
                      try simp only [Act.put, List.setIfInBounds_toArray, List.set_cons_zero, List.set_cons_succ]
                      refine wpAnyH_ready (rs := [18]) (by kernel_rfl) (by simp) ?_
                      refine AllReadyH.cons rfl (fun K hK => ?aer_28) ?ber_28
                      case aer_28 =>
                        go_simp
                        refine hK.out _ _ ?ser_28 (fun hHeld => ?ter_28)
                        case ser_28 => (first | with_reducible exact HCK.out _ (grownBy_drew (World.grownBy_alloc W0 _ none)) | with_reducible exact HCK.out _ ck | with_reducible exact HCK.out _ (grownBy_alloc' ck _))
                        case ter_28 =>
                          clear hK K
                          try simp only [Act.put, List.setIfInBounds_toArray, List.set_cons_zero, List.set_cons_succ]
                          refine wpAnyH_ready (rs := [19]) (by kernel_rfl) (by simp) ?_
                          refine AllReadyH.cons rfl (fun K hK => ?aer_29) ?ber_29
                          case aer_29 =>
                            go_simp
                            refine hK.out _ _ ?ser_29 (fun hHeld => ?ter_29)
                            case ser_29 => (first | with_reducible exact HCK.out _ (grownBy_drew (World.grownBy_alloc W0 _ none)) | with_reducible exact HCK.out _ ck | with_reducible exact HCK.out _ (grownBy_alloc' ck _))
                            case ter_29 =>
                              clear hK K
                              try simp only [Act.put, List.setIfInBounds_toArray, List.set_cons_zero, List.set_cons_succ]
                              refine wpAnyH_done (by kernel_rfl) ?_ _
                              try dsimp only
                              (go_wp2_with fail; (try simp only [Act.put, List.setIfInBounds_toArray, List.set_cons_zero, List.set_cons_succ]); go_returns; (first | exact ⟨by rw [HCAT.out]; rfl, grownBy_trans HG0.out (grownBy_alloc' ck _)⟩ | exact ⟨by rw [HCAT.out]; rfl, grownBy_trans HG0.out ck⟩))
                          case ber_29 =>
                            exact AllReadyH.nil
                      case ber_28 =>
                        exact AllReadyH.nil
                  case ber_25 =>
                    exact AllReadyH.nil
              case ber_22 =>
                refine AllReadyH.cons rfl (fun K hK => ?aer_30) ?ber_30
                case aer_30 =>
                  go_simp
                  refine hK.out _ _ ?ser_30 (fun hHeld => ?ter_30)
                  case ser_30 => (first | with_reducible exact HCK.out _ (grownBy_drew (World.grownBy_alloc W0 _ none)) | with_reducible exact HCK.out _ ck | with_reducible exact HCK.out _ (grownBy_alloc' ck _))
                  case ter_30 =>
                    clear hK K
                    try simp only [Act.put, List.setIfInBounds_toArray, List.set_cons_zero, List.set_cons_succ]
                    refine wpAnyH_ready (rs := [2]) (by kernel_rfl) (by simp) ?_
                    refine AllReadyH.cons rfl (fun K hK => ?aer_31) ?ber_31
                    case aer_31 =>
                      (go_simp; go_at_call 44; (with_reducible refine (HNUM.out _).mono ?_); rintro e w4 ⟨rfl, g4⟩; have ck : W0.grownBy w4 none := grownBy_trans (World.grownBy_alloc W0 (.cells #[.int .u8 (c : Int)] 5) none) ⟨g4.os, g4.tape, g4.output, g4.size, g4.block⟩; have hcv4 := HCV.out w4 W0.heap.size (g4.heap (heap_alloc_at W0 (.cells #[.int .u8 (c : Int)] 5) _ rfl) (by simp)))
                      refine hK.out _ _ ?ser_31 (fun hHeld => ?ter_31)
                      case ser_31 => (first | with_reducible exact HCK.out _ (grownBy_drew (World.grownBy_alloc W0 _ none)) | with_reducible exact HCK.out _ ck | with_reducible exact HCK.out _ (grownBy_alloc' ck _))
                      case ter_31 =>
                        clear hK K
                        try simp only [Act.put, List.setIfInBounds_toArray, List.set_cons_zero, List.set_cons_succ]
                        refine wpAnyH_take (i := 5) (v := ?ver_31) rfl (by kernel_rfl) (by kernel_rfl) (by kernel_rfl) (fun _ _ _ h => h) (Or.inl ⟨by kernel_rfl, ?her_31⟩) (by assumption) ?rer_31
                        case her_31 => (intro w0 hSw; (try dsimp only at hSw); go_simp; (try with_reducible rfl))
                        try simp only [Act.put, List.setIfInBounds_toArray, List.set_cons_zero, List.set_cons_succ]
                        refine wpAnyH_take (i := 8) (v := ?ver_32) rfl (by kernel_rfl) (by kernel_rfl) (by kernel_rfl) (fun _ _ _ h => h) (Or.inl ⟨by kernel_rfl, ?her_32⟩) (by assumption) ?rer_32
                        case her_32 => (intro w0 hSw; (try dsimp only at hSw); go_simp; (try with_reducible rfl))
                        try simp only [Act.put, List.setIfInBounds_toArray, List.set_cons_zero, List.set_cons_succ]
                        refine wpAnyH_take (i := 14) (v := ?ver_33) rfl (by kernel_rfl) (by kernel_rfl) (by kernel_rfl) (fun _ _ _ h => h) (Or.inl ⟨by kernel_rfl, ?her_33⟩) (by assumption) ?rer_33
                        case her_33 => (intro w0 hSw; (try dsimp only at hSw); go_simp; (try with_reducible rfl))
                        try simp only [Act.put, List.setIfInBounds_toArray, List.set_cons_zero, List.set_cons_succ]
                        refine wpAnyH_take (i := 17) (v := ?ver_34) rfl (by kernel_rfl) (by kernel_rfl) (by kernel_rfl) (fun _ _ _ h => h) (Or.inl ⟨by kernel_rfl, ?her_34⟩) (by assumption) ?rer_34
                        case her_34 => (intro w0 hSw; (try dsimp only at hSw); go_simp; (try with_reducible rfl))
                        try simp only [Act.put, List.setIfInBounds_toArray, List.set_cons_zero, List.set_cons_succ]
                        refine wpAnyH_ready (rs := [18]) (by kernel_rfl) (by simp) ?_
                        refine AllReadyH.cons rfl (fun K hK => ?aer_36) ?ber_36
                        case aer_36 =>
                          go_simp
                          refine hK.out _ _ ?ser_36 (fun hHeld => ?ter_36)
                          case ser_36 => (first | with_reducible exact HCK.out _ (grownBy_drew (World.grownBy_alloc W0 _ none)) | with_reducible exact HCK.out _ ck | with_reducible exact HCK.out _ (grownBy_alloc' ck _))
                          case ter_36 =>
                            clear hK K
                            try simp only [Act.put, List.setIfInBounds_toArray, List.set_cons_zero, List.set_cons_succ]
                            refine wpAnyH_ready (rs := [19]) (by kernel_rfl) (by simp) ?_
                            refine AllReadyH.cons rfl (fun K hK => ?aer_37) ?ber_37
                            case aer_37 =>
                              go_simp
                              refine hK.out _ _ ?ser_37 (fun hHeld => ?ter_37)
                              case ser_37 => (first | with_reducible exact HCK.out _ (grownBy_drew (World.grownBy_alloc W0 _ none)) | with_reducible exact HCK.out _ ck | with_reducible exact HCK.out _ (grownBy_alloc' ck _))
                              case ter_37 =>
                                clear hK K
                                try simp only [Act.put, List.setIfInBounds_toArray, List.set_cons_zero, List.set_cons_succ]
                                refine wpAnyH_done (by kernel_rfl) ?_ _
                                try dsimp only
                                (go_wp2_with fail; (try simp only [Act.put, List.setIfInBounds_toArray, List.set_cons_zero, List.set_cons_succ]); go_returns; (first | exact ⟨by rw [HCAT.out]; rfl, grownBy_trans HG0.out (grownBy_alloc' ck _)⟩ | exact ⟨by rw [HCAT.out]; rfl, grownBy_trans HG0.out ck⟩))
                            case ber_37 =>
                              exact AllReadyH.nil
                        case ber_36 =>
                          exact AllReadyH.nil
                    case ber_31 =>
                      exact AllReadyH.nil
                case ber_30 =>
                  exact AllReadyH.nil
          case ber_21 =>
            exact AllReadyH.nil
    · have hkk : ¬ (pubOk o r h ∧ p.size = 16) := hk
      have he : (⟨v, o, r, h, p⟩ : EntS).err = 10 := by
        unfold EntS.err
        rw [if_neg (by omega), if_neg hkk]
      have henc : (⟨v, o, r, h, p⟩ : EntS).enc = ⟨#[]⟩ := by unfold EntS.enc; rw [he]; rfl
      rw [he, henc]
      clear he henc
      have hways : (h < 0 ∨ h > 6) ∨ (¬ h < 0 ∧ ¬ h > 6 ∧ o.size ≠ 16) ∨ (¬ h < 0 ∧ ¬ h > 6 ∧ o.size = 16 ∧ r.size ≠ 16) ∨ (¬ h < 0 ∧ ¬ h > 6 ∧ o.size = 16 ∧ r.size = 16 ∧ p.size ≠ 16) := by
        by_cases a1 : h < 0 ∨ h > 6
        · exact .inl a1
        · by_cases a2 : o.size = 16
          · by_cases a3 : r.size = 16
            · by_cases a4 : p.size = 16
              · exact absurd ⟨⟨by omega, a2, a3⟩, a4⟩ hkk
              · exact .inr (.inr (.inr ⟨by omega, by omega, a2, a3, a4⟩))
            · exact .inr (.inr (.inl ⟨by omega, by omega, a2, a3⟩))
          · exact .inr (.inl ⟨by omega, by omega, a2⟩)
      clear hkk hk hvv
      rcases hways with a1 | ⟨a1, a2, a3⟩ | ⟨a1, a2, a3, a4⟩ | ⟨a1, a2, a3, a4, a5⟩
      · rcases a1 with a1 | a1
        · go_enter Tryd.func23, Tryd.ntmps23
          go_wp2_with (rw [HW0.out])
          go_returns
          exact ⟨rfl, HG0.out⟩
        · have a2 : ¬ h < 0 := by omega
          go_enter Tryd.func23, Tryd.ntmps23
          go_wp2_with (rw [HW0.out])
          go_returns
          exact ⟨rfl, HG0.out⟩
      · have s1 : ((o.size : Int) == 16) = false := beq_eq_false_iff_ne.2 (by omega)
        have t1 : ((o.size : Int) != 16) = true := by rw [bne, s1]; rfl
        clear a3
        go_enter Tryd.func23, Tryd.ntmps23
        go_wp2_with (rw [HW0.out])
        go_returns
        exact ⟨rfl, HG0.out⟩
      · have s1 : ((o.size : Int) == 16) = true := by simp; omega
        have t1 : ((o.size : Int) != 16) = false := by rw [bne, s1]; rfl
        have s2 : ((r.size : Int) == 16) = false := beq_eq_false_iff_ne.2 (by omega)
        have t2 : ((r.size : Int) != 16) = true := by rw [bne, s2]; rfl
        clear a3 a4
        go_enter Tryd.func23, Tryd.ntmps23
        go_wp2_with (rw [HW0.out])
        go_returns
        exact ⟨rfl, HG0.out⟩
      · have s1 : ((o.size : Int) == 16) = true := by simp; omega
        have t1 : ((o.size : Int) != 16) = false := by rw [bne, s1]; rfl
        have s2 : ((r.size : Int) == 16) = true := by simp; omega
        have t2 : ((r.size : Int) != 16) = false := by rw [bne, s2]; rfl
        have s3 : ((p.size : Int) == 16) = false := beq_eq_false_iff_ne.2 (by omega)
        have t3 : ((p.size : Int) != 16) = true := by rw [bne, s3]; rfl
        clear a3 a4 a5
        go_enter Tryd.func23, Tryd.ntmps23
        go_wp2_with (rw [HW0.out])
        go_returns
        exact ⟨rfl, HG0.out⟩

set_option maxRecDepth 100000 in
set_option maxHeartbeats 1600000 in
theorem ref17val_any (x : EntS) (hx : x.small) (w : World) :
    Calls Tryd.prog 25 #[x.val] w fun e w' => e = .returned (.string x.value) ∧ w.grownBy w' none := by
  have HEN := Lib.hid (fun w' => ref17enc_any x hx w')
  have hb0 := heap_alloc_at w (.cells #[.int .u64 x.v, .string x.o, .string x.r, .int .i64 x.h, .string x.p] 54) _ rfl
  have hg0 : w.grownBy (w.alloc (.cells #[.int .u64 x.v, .string x.o, .string x.r, .int .i64 x.h, .string x.p] 54)) none := World.grownBy_alloc _ _ _
  obtain ⟨W0, hW0⟩ : ∃ W0, w.alloc (.cells #[.int .u64 x.v, .string x.o, .string x.r, .int .i64 x.h, .string x.p] 54) = W0 := ⟨_, rfl⟩
  rw [hW0] at hb0 hg0
  obtain ⟨x0, x1, x2, x3, x4⟩ := cells5 hb0
  have HG0 := Lib.hid hg0
  have HW0 := Lib.hid hW0
  clear hb0 hg0 hW0
  unfold EntS.val at HEN ⊢
  by_cases he : x.err = 0
  · have h1 : x.enc = str x.bytes := by unfold EntS.enc; rw [if_pos he]
    have h2 : x.value = tagS 12 [str x.bytes] := by unfold EntS.value; rw [if_pos he]
    have hl : (str x.bytes).size ≤ 53 := by rw [str_size, EntS.len he]; exact Nat.le_refl _
    rw [h1, he] at HEN
    rw [h2]
    generalize str x.bytes = z at HEN hl ⊢
    have HL := Lib.hid hl
    clear h1 h2 he hl hx
    go_enter Tryd.func25, Tryd.ntmps25
    go_wp2_with (rw [HW0.out])
    refine (HEN.out _).mono ?_
    rintro e w1 ⟨rfl, g1⟩
    have HG1 := Lib.hid (grownBy_trans HG0.out g1)
    clear g1 x0 x1 x2 x3 x4
    have HT := Lib.hid (refTagged_new w1 _ rfl 12 [z] [.string z] 1 12 rfl rfl rfl (by simp) (by intro s hs; have := HL.out; simp at hs; subst hs; omega))
    go_wp2_with fail
    refine HT.out.mono ?_
    rintro e w2 ⟨rfl, g2⟩
    have HG2 := Lib.hid (grownBy_trans HG1.out g2)
    clear g2
    go_wp2_with fail
    go_ret
    exact ⟨rfl, HG2.out⟩
  · have h1 : x.enc = ⟨#[]⟩ := by unfold EntS.enc; rw [if_neg he]
    have h2 : x.value = ⟨#[]⟩ := by unfold EntS.value; rw [if_neg he]
    rw [h1] at HEN
    rw [h2]
    generalize x.err = z at HEN he
    have hz : (z != 0) = true := by simp [he]
    have hz2 : (z == 0) = false := by simp [he]
    clear h1 h2 he hx
    go_enter Tryd.func25, Tryd.ntmps25
    go_wp2_with (rw [HW0.out])
    refine (HEN.out _).mono ?_
    rintro e w1 ⟨rfl, g1⟩
    have HG1 := Lib.hid (grownBy_trans HG0.out g1)
    clear g1 x0 x1 x2 x3 x4
    go_wp2_with fail
    go_ret
    exact ⟨rfl, HG1.out⟩
end Go.Proofs.YtgaenpbdfelhhaaDoor
