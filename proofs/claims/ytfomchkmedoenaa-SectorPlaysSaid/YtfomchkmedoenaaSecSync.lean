/- The walk of Sync. -/
import Derived.Test.YtfomchkmedoenaaSecRd
namespace Go.Proofs.Ytfomchkmedoenaa
open Go.RowKit

/-- one writing, laid over the cells -/
theorem splice_set (L : List (List UInt8)) (rest : List Value) (q : Nat) (hs : Secs L) (hq : q < L.length) (y : List UInt8) (hy : y.length = 64) :
    (bytesV (sflat L) ++ rest).take (q * 64) ++ bytesV y ++ (bytesV (sflat L) ++ rest).drop (q * 64 + (bytesV y).length) = bytesV (sflat (L.set q y)) ++ rest := by
  have hl := sflat_length L hs
  have h1 : (q + 1) * 64 ≤ L.length * 64 := Nat.mul_le_mul_right 64 hq
  rw [sflat_set L hs q hq, bytesV_length, hy, List.take_append_of_le_length (by rw [bytesV_length]; omega), List.drop_append_of_le_length (by rw [bytesV_length]; omega)]
  rw [bytesV_append, bytesV_append, bytesV_take, bytesV_drop]
  simp only [List.append_assoc]
theorem sync_step {b gl cl gw cw k q : Nat} {D : DiskS} {kv : Value} {L : List (List UInt8)} {y : List UInt8} {rest : List Value} {w2 w4 : World}
    (h : DiskMem w2 b { D with last := L } (.slice (some ⟨gl, 0, none⟩) D.last.length cl) (.slice (some ⟨gw, 0, none⟩) D.wait.length cw) kv) (t : Turn (fun i => i = gl) w2 w4)
    (hr : w4.heap[gl]? = some (.cells (bytesV (sflat (L.set q y)) ++ rest).toArray 55 (0, 0))) (hLl : L.length = D.last.length) (hy : y.length = 64) (hL : syncL D.last (D.wait.take k) = L)
    (hx : D.wait[k]? = some (q, y)) (hz : (bytesV (sflat L) ++ rest).length = cl * 64) (hcl : D.last.length ≤ cl) (hcm : cl ≤ maxLen) :
    DiskMem w4 b { D with last := syncL D.last (D.wait.take (k + 1)) } (.slice (some ⟨gl, 0, none⟩) D.last.length cl) (.slice (some ⟨gw, 0, none⟩) D.wait.length cw) kv := by
  have hkw : k < D.wait.length := (List.getElem?_eq_some_iff.1 hx).1
  have hxe : D.wait[k] = (q, y) := (List.getElem?_eq_some_iff.1 hx).2
  have e : syncL D.last (D.wait.take (k + 1)) = L.set q y := by
    rw [← List.take_append_getElem hkw, syncL_snoc, hL, hxe]
  rw [e]
  have n1 : gl ≠ b := fun e => h.lb (by rw [e]; rfl)
  have n2 : gw ≠ gl := fun e => h.lw gl rfl (by rw [e]; rfl)
  have hs2 : Secs (L.set q y) := h.secs.set q hy
  have hsz : (bytesV (sflat (L.set q y)) ++ rest).length = cl * 64 := by
    rw [← hz, List.length_append, List.length_append, bytesV_length, bytesV_length, sflat_length _ hs2, sflat_length _ h.secs, List.length_set]
  have hl2 : (L.set q y).length = D.last.length := by rw [List.length_set, hLl]
  exact ⟨t.heap h.disk (fun e => n1 e.symm), (by show w4.ownsRow 0 _ 64 _ (L.set q y).length _; rw [hl2]; exact own_of hr hsz (by rw [bytesV_length, sflat_length _ hs2, hl2]) hcl hcm (Nat.zero_le _)), own_turn h.wait t (fun g e => by cases e; exact n2), own_turn h.keep t (fun g e q => h.lk gl rfl (by rw [e, q])), hs2, (by show Waits (L.set q y).length _; rw [hl2, ← hLl]; exact h.waits), h.lb, h.wb, h.kb, h.lw, h.lk, h.wk⟩
theorem sync_keep {w : World} {b gl nl cl A q o : Nat} {vs : List Value} {y : List UInt8} (h : w.cell? ⟨b, 0, none⟩ = some (.slice (some ⟨gl, 0, none⟩) nl cl) ∧ w.cell? ⟨A, 0, none⟩ = some (.int .i64 (q : Nat)) ∧ w.rangeAt A 1 (bytesV y) ∧ w.there gl (q * 64) (bytesV y).length) (n1 : gl ≠ b) (n2 : gl ≠ A) (hvs : vs.length = (bytesV y).length) (ho : o = q * 64) :
    (w.setCells gl o vs).cell? ⟨b, 0, none⟩ = some (.slice (some ⟨gl, 0, none⟩) nl cl) ∧ (w.setCells gl o vs).cell? ⟨A, 0, none⟩ = some (.int .i64 (q : Nat)) ∧ (w.setCells gl o vs).rangeAt A 1 (bytesV y) ∧ (w.setCells gl o vs).there gl (q * 64) (bytesV y).length := by
  obtain ⟨h1, h2, h3, h4⟩ := h
  subst ho
  have hb := World.cell?_of_block (w := w) (w' := w.setCells gl (q * 64) vs) (a := ⟨b, 0, none⟩) (heap_setCells_ne n1 _ _ _)
  have hA := fun o => World.cell?_of_block (w := w) (w' := w.setCells gl (q * 64) vs) (a := ⟨A, o, none⟩) (heap_setCells_ne n2 _ _ _)
  refine ⟨hb.trans h1, (hA 0).trans h2, fun j v hv => (hA (1 + j)).trans (h3 j v hv), fun j hj => ⟨?_, (World.frozen?_setCells gl vs (q * 64) w ⟨gl, q * 64 + j, none⟩).trans (h4 j hj).2⟩⟩
  rw [World.cell?_setCells_in gl vs (q * 64) w (fun j hj => (h4 j (by omega)).1) j (by omega)]
  rfl

def syncD (D : DiskS) : DiskS := { D with last := syncL D.last D.wait, wait := [] }
set_option maxHeartbeats 2000000 in
set_option maxRecDepth 100000 in
theorem sync_tail (b gl cl gw cw : Nat) (D : DiskS) (kv : Value) (w0 : World) (hw : Calls Try.prog 20 #[.pointer (some ⟨b, 0, none⟩)] w0 fun e w' => e = .returned (.int .i64 0) ∧ w0 = w')
    (hbu : Calls Try.prog 21 #[.pointer (some ⟨b, 0, none⟩)] w0 fun e w' => e = .returned (.bool false) ∧ DiskMem w' b D (.slice (some ⟨gl, 0, none⟩) D.last.length cl) (.slice (some ⟨gw, 0, none⟩) D.wait.length cw) kv ∧ Turn (fun i => i = b) w0 w')
    (hwl : D.wait.length ≤ 1000000000000) :
    Calls Try.prog 10 #[.pointer (some ⟨b, 0, none⟩)] w0 fun e w' => e = .returned (.int .i64 0) ∧
      DiskMem w' b (syncD D) (.slice (some ⟨gl, 0, none⟩) D.last.length cl) (.slice none 0 0) kv ∧ Turn (fun i => i = b ∨ i = gl) w0 w' := by
  obtain ⟨m, hmm⟩ : ∃ m, D.wait.length = m := ⟨_, rfl⟩
  have HWK := Lib.hid hw
  have HBU := Lib.hid hbu
  have HWS := Lib.hid hmm
  rw [hmm] at hwl
  clear hmm hw hbu
  go_enter Try.func10, Try.ntmps10
  go_wp2_with fail
  refine HWK.out.mono ?_
  rintro e w1 ⟨rfl, rfl⟩
  go_wp2_with fail
  refine HBU.out.mono ?_
  rintro e w ⟨rfl, hm, t0⟩
  have HM := Lib.hid hm
  have T0 := Lib.hid t0
  have c1 : w.cell? ⟨b, 1, none⟩ = some (.slice (some ⟨gw, 0, none⟩) m cw) := by rw [cell_of hm.disk]; simp [HWS.out]
  have hmc : m ≤ cw := by obtain ⟨_, _, _, _, h, _⟩ := own_block hm.wait; have := HWS.out; omega
  clear hm t0
  go_wp2_with fail
  go_loopw [5, 18] (fun _ iv wr => ∃ k : Nat, k ≤ m ∧ iv = .int .i64 k ∧ Hid (DiskMem wr b { D with last := syncL D.last (D.wait.take k) } (.slice (some ⟨gl, 0, none⟩) D.last.length cl) (.slice (some ⟨gw, 0, none⟩) D.wait.length cw) kv) ∧ Hid (Turn (fun i => i = b ∨ i = gl) w wr)) (fun _ iv _ => m - (intOf iv).toNat)
  case atStart => exact ⟨0, Nat.zero_le _, rfl, by rw [List.take_zero, syncL]; exact HM.out, Turn.refl _ _⟩
  case round =>
    obtain ⟨k, hk, rfl, HD, HT⟩ := hrel
    by_cases hlt : k < m
    · have hx := HD.out.waits
      obtain ⟨x, hxe⟩ : ∃ x, D.wait[k]? = some x := ⟨_, List.getElem?_eq_getElem (by have := HWS.out; omega)⟩
      have d1 : (k : Int) < (m : Int) := by omega
      have d0 : (0 : Int) ≤ (k : Int) := by omega
      have hxl := wcells_length x (hx x (List.mem_of_getElem? hxe)).2
      have HC : Hid (wr.rangeAt gw (k * 65) (wcells x)) := by
        intro j v hv
        have hj : j < 65 := by rw [← hxl]; exact (List.getElem?_eq_some_iff.1 hv).1
        have hkw : k < D.wait.length := by have := HWS.out; omega
        have h2 : (k + 1) * 65 ≤ D.wait.length * 65 := Nat.mul_le_mul_right 65 hkw
        rw [World.ownsRow.cellAt HD.out.wait (k * 65 + j) (by show k * 65 + j < D.wait.length * 65; omega)]
        refine (wflat_at D.wait hx k hkw j hj).trans ?_
        rw [(List.getElem?_eq_some_iff.1 hxe).2]
        exact hv
      have HI : Hid ((Try.prog.info? 57).map (·.size) = some (wcells x).toArray.size) := by
        show _ = _
        rw [List.size_toArray, hxl]; kernel_rfl
      have H1 : Hid ((wcells x).toArray.all (·.oneCell') = true) := all_oneCell_toArray (wcells_one x)
      have HL0 : Hid ((wcells x).toArray.size = 65) := by show _ = _; rw [List.size_toArray, hxl]
      clear hxl
      have hz1 := wZ_size
      have hz2 := wZ_ne
      have hz3 := zero_writing
      go_upto_region 9 with (first
        | (refine wpList_load_mid (by rfl) 57 (.tmp 20) (by rfl) gw (k * 65) (by rfl) _ _ HC.out Try.underlying57 (by rfl) (by exact HI.out) ?_)
        | (refine wpList_store_rowTo (by rfl) 57 (.tmp 5) (.tmp 21) (by rfl) (by rfl) wr.heap.size (wcells x).toArray (by rfl) (by rfl) 57 _ (heap_alloc_new wr _) HI.out (by exact HL0.out.symm) H1.out ?_))
      generalize hW : World.setRow (World.alloc wr _) wr.heap.size _ = w2
      rw [World.setRow_alloc_new] at hW
      have g2 : wr.grownBy w2 none := by rw [← hW]; exact World.grownBy_alloc _ _ _
      have hA : w2.heap[wr.heap.size]? = some (.cells (wcells x).toArray 57 (0, 0)) := by rw [← hW]; exact heap_alloc_at _ _ _ rfl
      clear hW hz1 hz2 hz3
      have hgl : gl < wr.heap.size := (HD.out.last.lt gl rfl).2
      generalize wr.heap.size = A at *
      have HA := Lib.hid hA
      obtain ⟨L, hL⟩ : ∃ L, syncL D.last (D.wait.take k) = L := ⟨_, rfl⟩
      have hLl : L.length = D.last.length := by rw [← hL, syncL_length]
      have hd2 := HD.out.turn (S := fun _ => False) (Turn.of_grown g2) (fun q => q) (fun _ _ q => q) (fun _ _ q => q) (fun _ _ q => q)
      rw [hL] at hd2
      have HL := Lib.hid hL
      have HLL := Lib.hid hLl
      have HD2 := Lib.hid hd2
      have HT2 := Lib.hid (HT.out.grown g2)
      clear hL hLl hd2 hA HD HT g2 HC H1 HL0 HI
      have hxw := HD2.out.waits x (List.mem_of_getElem? hxe)
      obtain ⟨q, y, s⟩ : ∃ q : Nat, ∃ y : List UInt8, x = (q, y) := ⟨x.1, x.2, rfl⟩
      subst s
      obtain ⟨hq, hy⟩ := hxw
      have hq0 : (q : Int) < (D.last.length : Int) := by have := hq; rw [HLL.out] at this; omega
      have z0 : (0 : Int) ≤ (q : Int) := by omega
      obtain ⟨rest, hrow, hrz, hrl, hrc, hrm, _⟩ := own_block (by have := HD2.out.last; rw [HLL.out] at this; exact this)
      have hc0 : w2.cell? ⟨b, 0, none⟩ = some (.slice (some ⟨gl, 0, none⟩) D.last.length cl) := by rw [cell_of HD2.out.disk]; rfl
      have hcA : w2.cell? ⟨A, 0, none⟩ = some (.int .i64 (q : Nat)) := by rw [cell_of HA.out]; rfl
      have hra : w2.rangeAt A 1 (bytesV y) := by
        intro j v hv
        rw [cell_of HA.out, List.getElem?_toArray, Nat.add_comm]
        exact hv
      have hth : w2.there gl (q * 64) (bytesV y).length := by
        intro j hj
        rw [bytesV_length, hy] at hj
        have h1 : (q + 1) * 64 ≤ L.length * 64 := Nat.mul_le_mul_right 64 hq
        rw [cell_of hrow, free_of hrow, List.getElem?_toArray]
        refine ⟨?_, rfl⟩
        rw [List.getElem?_append_left (by rw [bytesV_length, sflat_length L HD2.out.secs]; omega), List.getElem?_eq_getElem (by rw [bytesV_length, sflat_length L HD2.out.secs]; omega)]
        rfl
      have n1 : gl ≠ b := fun e => HD2.out.lb (by rw [e]; rfl)
      have n2 : gl ≠ A := by omega
      have HS0 := Lib.hid (And.intro hc0 (And.intro hcA (And.intro hra hth)))
      have hu59 := Try.underlying55
      have hi59 : (Try.prog.info? 55).map (·.size) = some (bytesV y).length := by rw [bytesV_length, hy]; kernel_rfl
      have h159 := bytesV_one y
      have HROW := Lib.hid hrow
      have HRZ := Lib.hid hrz
      have HQ := Lib.hid hq
      have HY := Lib.hid hy
      clear hrow hrz hrl hq hy hc0 hcA hra hth
      go_wp2_with fail
      go_region_held3 (fun w' => w'.cell? ⟨b, 0, none⟩ = some (.slice (some ⟨gl, 0, none⟩) D.last.length cl) ∧ w'.cell? ⟨A, 0, none⟩ = some (.int .i64 (q : Nat)) ∧ w'.rangeAt A 1 (bytesV y) ∧ w'.there gl (q * 64) (bytesV y).length)
        (first | exact HS0.out | exact sync_keep (by assumption) n1 n2 rfl rfl) (fail)
      all_goals
        go_wp2_with fail
        go_roundw
        case rel =>
          have ht : Turn (fun i => i = gl) w2 (w2.drew.setCells gl (q * 64) (bytesV y)) := ((Turn.refl (fun i => i = gl) w2).drew).setCells (fun _ => rfl) _ _
          have hr := heap_setCells (bytesV y) (q * 64) w2.drew (bytesV (sflat L) ++ rest).toArray HROW.out (by
            have h1 : (q + 1) * 64 ≤ L.length * 64 := Nat.mul_le_mul_right 64 HQ.out
            rw [List.size_toArray, List.length_append, bytesV_length, bytesV_length, HY.out, sflat_length L HD2.out.secs]; omega)
          rw [List.toList_toArray, splice_set L rest q HD2.out.secs HQ.out y HY.out] at hr
          exact ⟨k + 1, by omega, by go_num, sync_step HD2.out ht hr HLL.out HY.out HL.out hxe HRZ.out hrc hrm, HT2.out.trans ht (fun i _ e => .inr e)⟩
        case measure => simp [intOf]; omega
    · have hkm : k = m := by omega
      have hhd := HD.out.disk
      have f0 := fun j => free_of hhd j
      have e1 : wr.cell? ⟨b, 1, none⟩ = some (.slice (some ⟨gw, 0, none⟩) D.wait.length cw) := by rw [cell_of hhd]; rfl
      have HH := Lib.hid hhd
      have d3 : ¬ (k : Int) < (m : Int) := by omega
      clear hhd
      go_wp2_with fail
      go_ret
      have t : Turn (fun i => i = b) wr (wr.setCell ⟨b, 1, none⟩ (.slice none 0 0)) := (Turn.refl (fun i => i = b) wr).setCell (fun _ => rfl) _ _
      have hE : syncL D.last (D.wait.take k) = syncL D.last D.wait := by rw [hkm, ← HWS.out, List.take_length]
      have hm := HD.out
      rw [hE] at hm
      exact ⟨rfl, ⟨heap_setCell HH.out 1 _, own_turn hm.last t (fun g e q => hm.lb (by rw [e, q])), World.ownsRow_nil _ _ _ _, own_turn hm.keep t (fun g e q => hm.kb (by rw [e, q])), hm.secs, fun x hx => by simp [syncD] at hx, hm.lb, by simp [Value.ownBlock], hm.kb, fun _ _ => by simp [Value.ownBlock], hm.lk, fun _ h => by simp [Value.ownBlock] at h⟩, ((T0.out.mono (fun i _ e => .inl e)).then HT.out).then (t.mono (fun i _ e => .inl e))⟩

set_option maxHeartbeats 1000000 in
theorem sync_tail0 (b : Nat) (D : DiskS) (lv kv : Value) (w0 : World) (hw : Calls Try.prog 20 #[.pointer (some ⟨b, 0, none⟩)] w0 fun e w' => e = .returned (.int .i64 0) ∧ w0 = w')
    (hbu : Calls Try.prog 21 #[.pointer (some ⟨b, 0, none⟩)] w0 fun e w' => e = .returned (.bool false) ∧ DiskMem w' b D lv (.slice none 0 0) kv ∧ Turn (fun i => i = b) w0 w') (h0 : D.wait = []) :
    Calls Try.prog 10 #[.pointer (some ⟨b, 0, none⟩)] w0 fun e w' => e = .returned (.int .i64 0) ∧
      DiskMem w' b (syncD D) lv (.slice none 0 0) kv ∧ Turn (fun i => i = b) w0 w' := by
  have HWK := Lib.hid hw
  have HBU := Lib.hid hbu
  have H0 := Lib.hid h0
  clear h0 hw hbu
  go_enter Try.func10, Try.ntmps10
  go_wp2_with fail
  refine HWK.out.mono ?_
  rintro e w1 ⟨rfl, rfl⟩
  go_wp2_with fail
  refine HBU.out.mono ?_
  rintro e w ⟨rfl, hm, t0⟩
  have HM := Lib.hid hm
  have T0 := Lib.hid t0
  have e1 : w.cell? ⟨b, 1, none⟩ = some (.slice none 0 0) := by rw [cell_of hm.disk]; rfl
  have f1 := free_of hm.disk 1
  clear hm t0
  go_wp2_with fail
  go_loopw [5, 18] (fun _ iv wr => iv = .int .i64 0 ∧ Hid (w = wr)) (fun _ _ _ => 0)
  case atStart => exact ⟨rfl, rfl⟩
  case round =>
    obtain ⟨rfl, HW⟩ := hrel
    obtain rfl := HW.out
    clear HW
    go_wp2_with fail
    go_ret
    have t : Turn (fun i => i = b) w (w.setCell ⟨b, 1, none⟩ (.slice none 0 0)) := (Turn.refl (fun i => i = b) w).setCell (fun _ => rfl) _ _
    have hm := HM.out
    have hE : syncD D = D := by unfold syncD; rw [H0.out, syncL]; cases D; simp at *; rw [H0.out]
    rw [hE]
    exact ⟨rfl, ⟨heap_setCell hm.disk 1 _, own_turn hm.last t (fun g e q => hm.lb (by rw [e, q])), by rw [H0.out]; exact World.ownsRow_nil _ _ _ _, own_turn hm.keep t (fun g e q => hm.kb (by rw [e, q])), hm.secs, hm.waits, hm.lb, hm.wb, hm.kb, hm.lw, hm.lk, hm.wk⟩, T0.out.then t⟩

def decF (f : Int) : Int := if f < 0 then f else f - 1
theorem burns_mem (b : Nat) (D : DiskS) (lv wv kv : Value) (w : World) (m : DiskMem w b D lv wv kv) (h : D.fuse ≠ 0) (h2 : D.fuse ≤ 9223372036854775807) : Calls Try.prog 21 #[.pointer (some ⟨b, 0, none⟩)] w fun e w' => e = .returned (.bool false) ∧
    DiskMem w' b { D with fuse := decF D.fuse } lv wv kv ∧ Turn (fun i => i = b) w w' := by
  by_cases h0 : D.fuse < 0
  · refine (burns_none (fun _ => True) b D w ⟨_, _, _, m, trivial, fun _ _ => trivial, fun _ _ => trivial, fun _ _ => trivial⟩ h0).mono ?_
    rintro e w' ⟨rfl, rfl⟩
    unfold decF
    rw [if_pos h0]
    exact ⟨rfl, m, Turn.refl _ _⟩
  · have hd : decF D.fuse = D.fuse - 1 := by unfold decF; rw [if_neg h0]
    rw [hd]
    have e3 : w.cell? ⟨b, 3, none⟩ = some (.int .i64 D.fuse) := by rw [cell_of m.disk]; rfl
    have g3 : w.frozen? ⟨b, 3, none⟩ = false := free_of m.disk 3
    have e5 : (D.fuse == 0) = false := by simpa using h
    have e6 : (0 : Int) < D.fuse := by omega
    have M := Lib.hid m
    clear m hd
    go_enter Try.func21, Try.ntmps21
    go_wp2_with fail
    go_ret
    have t : Turn (fun i => i = b) w (w.setCell ⟨b, 3, none⟩ (.int .i64 (D.fuse - 1))) := (Turn.refl (fun i => i = b) w).setCell (fun _ => rfl) _ _
    exact ⟨rfl, M.out.setHead t (on := D.on) (heap_setCell M.out.disk 3 _), t⟩
theorem works_at_on (F : Nat → Prop) (b : Nat) (D : DiskS) (w : World) (hm : DiskAt F w b D) (h : D.on = true) : Calls Try.prog 20 #[.pointer (some ⟨b, 0, none⟩)] w fun e w' => e = .returned (.int .i64 0) ∧ w = w' := by
  obtain ⟨lv, wv, kv, m, f1, f2, f3, f4⟩ := hm
  exact works_on b w (by rw [cell_of m.disk, ← h]; rfl)
theorem works_at_off (F : Nat → Prop) (b : Nat) (D : DiskS) (w : World) (hm : DiskAt F w b D) (h : D.on = false) : Calls Try.prog 20 #[.pointer (some ⟨b, 0, none⟩)] w fun e w' => e = .returned (.int .i64 8) ∧ w = w' := by
  obtain ⟨lv, wv, kv, m, f1, f2, f3, f4⟩ := hm
  exact works_off b w (by rw [cell_of m.disk, ← h]; rfl)

/-- a Sync that is done -/
theorem sync_ok (F : Nat → Prop) (b : Nat) (D : DiskS) (w : World) (hm : DiskAt F w b D) (h : D.on = true) (h0 : 0 < D.last.length) (hf : D.fuse ≠ 0) (hf2 : D.fuse ≤ 9223372036854775807) (hwl : D.wait.length ≤ 1000000000) :
    Calls Try.prog 10 #[.pointer (some ⟨b, 0, none⟩)] w fun e w' => e = .returned (.int .i64 0) ∧ DiskAt F w' b (syncD { D with fuse := decF D.fuse }) ∧ Turn F w w' := by
  have hw := works_at_on F b D w hm h
  obtain ⟨lv, wv, kv, m, f1, f2, f3, f4⟩ := hm
  have hbu := burns_mem b D lv wv kv w m hf hf2
  rcases own_form m.last with ⟨_, hz⟩ | ⟨gl, cl, rfl⟩
  · omega
  rcases own_form m.wait with ⟨rfl, hw0⟩ | ⟨gw, cw, rfl⟩
  · refine (sync_tail0 b { D with fuse := decF D.fuse } _ kv w hw hbu (List.eq_nil_of_length_eq_zero hw0)).mono ?_
    rintro e w' ⟨rfl, q, t⟩
    exact ⟨rfl, ⟨_, _, _, q, f1, f2, f3, f4⟩, t.mono (fun i _ e => by rw [e]; exact f1)⟩
  · refine (sync_tail b gl cl gw cw { D with fuse := decF D.fuse } kv w hw hbu (by show D.wait.length ≤ _; omega)).mono ?_
    rintro e w' ⟨rfl, q, t⟩
    exact ⟨rfl, ⟨_, _, _, q, f1, f2, by simp [Value.ownBlock], f4⟩, t.mono (fun i _ e => by rcases e with e | e; rw [e]; exact f1; exact f2 i (by rw [e]; rfl))⟩
theorem sync_off (F : Nat → Prop) (b : Nat) (D : DiskS) (w : World) (hm : DiskAt F w b D) (h : D.on = false) : Calls Try.prog 10 #[.pointer (some ⟨b, 0, none⟩)] w fun e w' => e = .returned (.int .i64 8) ∧ w = w' := by
  have C := Lib.hid (works_at_off F b D w hm h)
  clear hm h
  go_enter Try.func10, Try.ntmps10
  go_wp2_with fail
  refine C.out.mono ?_
  rintro e w1 ⟨rfl, rfl⟩
  go_wp2_with fail
  go_ret
  exact ⟨rfl, rfl⟩
theorem sync_power (F : Nat → Prop) (b : Nat) (D : DiskS) (w : World) (hm : DiskAt F w b D) (h : D.on = true) (h0 : 0 < D.last.length) (hf : D.fuse = 0) (hkl : D.keep.length ≤ 9223372036854775807) (hwl : D.wait.length ≤ 1000000000000) :
    Calls Try.prog 10 #[.pointer (some ⟨b, 0, none⟩)] w fun e w' => e = .returned (.int .i64 8) ∧ DiskAt F w' b (cutD D D.keep) ∧ Turn F w w' := by
  have C := Lib.hid (works_at_on F b D w hm h)
  have C2 := Lib.hid (burns_cut F b D w hm h0 hf hkl hwl)
  clear hm h hf
  go_enter Try.func10, Try.ntmps10
  go_wp2_with fail
  refine C.out.mono ?_
  rintro e w1 ⟨rfl, rfl⟩
  go_wp2_with fail
  refine C2.out.mono ?_
  rintro e w1 ⟨rfl, hd, t⟩
  have HD := Lib.hid hd
  have T := Lib.hid t
  clear hd t
  go_wp2_with fail
  go_ret
  exact ⟨rfl, HD.out, T.out⟩
end Go.Proofs.Ytfomchkmedoenaa
