/- The walk of Prove. · The walk of proof's climb. · The walks of a proof's tells, Has, Lacks, by what climb is said to do. · Prove, where a key or a depth may not be; climb, in the form that Node, Has, Lacks ask for. · The walk of layer 14's laws' both. -/
import Derived.Test.YtbhoeiopckmfhaaGreatDoorTopBandsB13
import Derived.Deep.AppendLies
import Derived.Deep.RegionHeld3
import Derived.Test.YtbhoeiopckmfhaaGreatDoorTopBandsB11
import Derived.Test.YtbhoeiopckmfhaaGreatDoorTopBandsB12
import Derived.Deep.DeepCutAuto
namespace Go.Proofs.YtbhoeiopckmfhaaGreatDoor
open Go.RowKit Go.Maps
attribute [local irreducible] shaL

theorem one_textP (r : ByteArray) : ∀ u ∈ [Value.string r], u.oneCell' = true := by
  intro u hu
  simp at hu
  subst hu
  rfl
theorem size_allocP {w w' : World} {row : Option Nat} (h : w.grownBy w' row) (o : Obj) : w.heap.size ≤ (w'.alloc o).heap.size := by
  have := h.size
  simp
  omega
def emptyP : Array Value := #[.slice none 0 0, .bool false, .string ⟨#[]⟩, .string ⟨#[]⟩]
theorem zero_proof (w : World) : (zeroValue 92).run Tryz.prog w = .ok (.agg #[.slice none 0 0, .bool false, .string ⟨#[]⟩, .string ⟨#[]⟩]) w := by kernel_rfl
/-- where Prove is: the keys that go on, the way so far, the proof being made, the result's cell -/
structure PrvAt (n : Nat) (w wr : World) (kv bv : Value) (KL Bk : List ByteArray) : Prop where
  keys : wr.ownsRow (n + 2) 9 1 kv KL.length (strsV KL)
  way : wr.ownsRow (n + 2) 9 1 bv Bk.length (strsV Bk)
  res : wr.heap[n]? = some (.cells emptyP 92 (0, 0))
  prf : wr.heap[n + 1]? = some (.cells #[bv, .bool false, .string ⟨#[]⟩, .string ⟨#[]⟩] 92 (0, 0))
  far : ∀ g, kv.ownBlock = some g → bv.ownBlock ≠ some g
  grown : w.grownBy wr none
theorem PrvAt.size {n : Nat} {w wr : World} {kv bv : Value} {KL Bk : List ByteArray} (h : PrvAt n w wr kv bv KL Bk) : n + 2 ≤ wr.heap.size := (Array.getElem?_eq_some_iff.1 h.prf).1
theorem PrvAt.prf8 {n : Nat} {w wr w7 w8 : World} {kv bv : Value} {KL Bk : List ByteArray} {o : Obj} (h : PrvAt n w wr kv bv KL Bk) (k7 : wr.grownBy w7 none) (k8 : (w7.alloc o).grownBy w8 bv.ownBlock) : w8.cell? ⟨n + 1, 0, none⟩ = some bv ∧ w8.frozen? ⟨n + 1, 0, none⟩ = false ∧ wr.grownBy w8 bv.ownBlock := by
  have hb := h.way.lt
  have k7a : wr.grownBy (w7.alloc o) none := grownBy_alloc' k7 o
  have hp8 := k8.heap (k7a.heap h.prf (by simp)) (fun e => by have := (hb _ e).1; omega)
  exact ⟨by rw [cell_of hp8]; rfl, frozen_of_row _ _ _ _ _ hp8, grownBy_trans (grownBy_any k7a _) k8⟩
theorem PrvAt.grow {n : Nat} {w wr w' : World} {kv bv : Value} {KL Bk : List ByteArray} (h : PrvAt n w wr kv bv KL Bk) (g : wr.grownBy w' none) : PrvAt n w w' kv bv KL Bk :=
  ⟨own_keep h.keys g (fun _ _ e => by cases e), own_keep h.way g (fun _ _ e => by cases e), g.heap h.res (by simp), g.heap h.prf (by simp), h.far, grownBy_trans h.grown g⟩
theorem PrvAt.alike {n : Nat} {w wr w' : World} {kv kv' bv : Value} {KL KL' Bk : List ByteArray} (hn : w.heap.size = n) (h : PrvAt n w wr kv bv KL Bk) (g : wr.grownBy w' kv.ownBlock) (ho : w'.ownsRow (n + 2) 9 1 kv' KL'.length (strsV KL')) (hb : kv'.ownBlock = kv.ownBlock) : PrvAt n w w' kv' bv KL' Bk := by
  have hlt := h.keys.lt
  refine ⟨ho, own_keep h.way g (fun x hx e => h.far x e hx), g.heap h.res (fun e => ?_), g.heap h.prf (fun e => ?_), fun x hx => h.far x (by rw [← hb]; exact hx), ?_⟩
  · have := (hlt _ e).1; omega
  · have := (hlt _ e).1; omega
  · exact grown_row h.grown g (fun x e => by have := (hlt x e).1; omega)
theorem PrvAt.push {n : Nat} {w wr w7 w8 : World} {kv bv : Value} {KL Bk : List ByteArray} {o : Obj} {x : ByteArray} {g8 c8 : Nat} (hn : w.heap.size = n) (h : PrvAt n w wr kv bv KL Bk) (k7 : wr.grownBy w7 none) (k8 : (w7.alloc o).grownBy w8 bv.ownBlock)
    (ho : w8.ownsRow (n + 2) 9 1 (.slice (some ⟨g8, 0, none⟩) (Bk.length + 1) c8) (Bk.length + 1) (strsV (Bk ++ [x]))) (hg : bv.ownBlock = some g8 ∨ g8 = (w7.alloc o).heap.size) :
    PrvAt n w (w8.setCell ⟨n + 1, 0, none⟩ (.slice (some ⟨g8, 0, none⟩) (Bk.length + 1) c8)) kv (.slice (some ⟨g8, 0, none⟩) (Bk.length + 1) c8) KL (Bk ++ [x]) := by
  have hk := h.keys.lt
  have hb := h.way.lt
  have k7a : wr.grownBy (w7.alloc o) none := grownBy_alloc' k7 o
  have h7 := h.grow k7a
  have hg8 : n + 2 ≤ g8 := by
    rcases hg with e | e
    · exact (hb g8 e).1
    · have h1 := (Array.getElem?_eq_some_iff.1 h7.prf).1
      have : w7.heap.size < (w7.alloc o).heap.size := by simp
      have h2 := (Array.getElem?_eq_some_iff.1 h.prf).1
      have := k7.size
      omega
  have hp8 := k8.heap h7.prf (fun e => by have := (hb _ e).1; omega)
  have hr8 := k8.heap h7.res (fun e => by have := (hb _ e).1; omega)
  have e7 : (strsV KL).length = KL.length := strsV_length KL
  refine ⟨?_, ?_, ?_, ?_, ?_, ?_⟩
  · have h9 := own_keep h7.keys k8 (fun y hy e => h.far y hy e)
    exact own_keep h9 (grownBy_setCell (World.grownBy.refl w8 _) 0 _) (fun y hy e => by have e2 : n + 1 = y := Option.some.inj e; have := (hk _ hy).1; omega)
  · have e8 : (Bk ++ [x]).length = Bk.length + 1 := by simp
    rw [e8]
    exact own_keep ho (grownBy_setCell (World.grownBy.refl w8 _) 0 _) (fun y hy e => by have e2 : n + 1 = y := Option.some.inj e; have e3 : g8 = y := Option.some.inj hy; omega)
  · rw [heap_setCell_ne _ _ _ _ (by omega)]
    exact hr8
  · have := heap_setCell hp8 0 (.slice (some ⟨g8, 0, none⟩) (Bk.length + 1) c8)
    rw [this]
    rfl
  · intro y hy e
    have e3 : g8 = y := Option.some.inj e
    subst e3
    rcases hg with e | e
    · exact h.far _ hy e
    · have h1 := (hk _ hy).2
      have := k7.size
      have := World.size_alloc w7 o
      omega
  · have k9 := grown_row (grownBy_trans h.grown k7a) k8 (fun y e => by have := (hb y e).1; omega)
    exact grownBy_setNew k9 (by omega) _ _
theorem heap4 {w : World} {n : Nat} {a0 a1 a2 a3 : Value} {t : TypeId} (h : w.heap[n]? = some (.cells #[a0, a1, a2, a3] t (0, 0))) (v0 v1 v2 v3 : Value) :
    ((((w.setCell ⟨n, 0, none⟩ v0).setCell ⟨n, 1, none⟩ v1).setCell ⟨n, 2, none⟩ v2).setCell ⟨n, 3, none⟩ v3).heap[n]? = some (.cells #[v0, v1, v2, v3] t (0, 0)) := by
  have h1 := heap_setCell (heap_setCell (heap_setCell (heap_setCell h 0 v0) 1 v1) 2 v2) 3 v3
  rw [h1]
  rfl
theorem grown4 (w : World) (n : Nat) (v0 v1 v2 v3 : Value) : w.grownBy ((((w.setCell ⟨n, 0, none⟩ v0).setCell ⟨n, 1, none⟩ v1).setCell ⟨n, 2, none⟩ v2).setCell ⟨n, 3, none⟩ v3) (some n) :=
  grownBy_setCell (grownBy_setCell (grownBy_setCell (grownBy_setCell (World.grownBy.refl w _) 0 _) 1 _) 2 _) 3 _
theorem results_prove {n : Nat} {v0 v1 v2 v3 : Value} {z : Int} {tmps : Array Value} {w : World} (h6 : tmps[6]? = some (.pointer (some ⟨n, 0, none⟩))) (h7 : tmps[7]? = some (.int .i64 z)) (hb : w.heap[n]? = some (.cells #[v0, v1, v2, v3] 92 (0, 0))) :
    (results Tryz.f36 tmps).run Tryz.prog w = .ok (.tuple #[.agg #[v0, v1, v2, v3], .int .i64 z]) w := by
  have c0 : w.cell? ⟨n, 0, none⟩ = some v0 := by rw [cell_of hb]; rfl
  have c1 : w.cell? ⟨n, 1, none⟩ = some v1 := by rw [cell_of hb]; rfl
  have c2 : w.cell? ⟨n, 2, none⟩ = some v2 := by rw [cell_of hb]; rfl
  have c3 : w.cell? ⟨n, 3, none⟩ = some v3 := by rw [cell_of hb]; rfl
  simp [results, Tryz.results36, go_sem, h6, h7, c0, c1, c2, c3]
set_option maxRecDepth 100000 in
set_option maxHeartbeats 4000000 in
theorem prove_any (n0 : Nat) (X : List Nat) (w : World) (b : Nat) (M : List PairS) (key : ByteArray) (d : Nat) (hT : TreeK n0 X w b M) (hP : Plain M) (hk : key.size = 16) (hd : d ≤ 128) (hr : ShaReady w) :
    Calls Tryz.prog 36 #[.pointer (some ⟨b, 0, none⟩), .string key, .int .i64 d] w fun e w' => ∃ bv, e = .returned (.tuple #[.agg #[bv, .bool (decide (restT M key d ≠ [])), .string (keyOf (restT M key d)), .string (valOf (restT M key d))], .int .i64 0]) ∧ w'.ownsRow w.heap.size 9 1 bv (wayT M key d).length (strsV (wayT M key d)) ∧ w.grownBy w' none := by
  obtain ⟨i0, hti, hz0, hz1, hz2⟩ := info_parts infoStrW
  have hks : ((key.size : Int) == 16) = true := by rw [hk]; rfl
  have HT := Lib.hid hT
  have HP := Lib.hid hP
  have HK := Lib.hid hk
  have HD := Lib.hid hd
  have HR := Lib.hid hr
  have d1 : ¬ (d : Int) < 0 := by omega
  have d2 : ¬ (d : Int) > 128 := by omega
  clear hT hP hr
  go_enter Tryz.func36, Tryz.ntmps36
  go_wp2_with fail
  obtain ⟨W2, hW2⟩ : ∃ W2, (w.alloc (.cells #[.slice none 0 0, .bool false, .string ⟨#[]⟩, .string ⟨#[]⟩] 92)).alloc (.cells #[.slice none 0 0, .bool false, .string ⟨#[]⟩, .string ⟨#[]⟩] 92) = W2 := ⟨_, rfl⟩
  rw [hW2]
  have hg2 : w.grownBy W2 none := by rw [← hW2]; exact grownBy_alloc' (World.grownBy_alloc _ _ _) _
  have hs2 : W2.heap.size = w.heap.size + 2 := by rw [← hW2]; simp
  have hr2 : W2.heap[w.heap.size]? = some (.cells emptyP 92 (0, 0)) := by rw [← hW2]; exact (World.grownBy_alloc _ _ none).heap (heap_alloc_at w _ _ rfl) (by simp)
  have hp2 : W2.heap[w.heap.size + 1]? = some (.cells emptyP 92 (0, 0)) := by
    rw [← hW2]
    have := heap_alloc_at (w.alloc (.cells #[.slice none 0 0, .bool false, .string ⟨#[]⟩, .string ⟨#[]⟩] 92)) (.cells #[.slice none 0 0, .bool false, .string ⟨#[]⟩, .string ⟨#[]⟩] 92) _ rfl
    rw [World.size_alloc] at this
    exact this
  clear hW2
  obtain ⟨n, hn⟩ : ∃ n, w.heap.size = n := ⟨_, rfl⟩
  rw [hn] at hs2 hr2 hp2 ⊢
  have HN := Lib.hid hn
  have HM2 := Lib.hid (And.intro hr2 hp2)
  have HG2 := Lib.hid hg2
  have hkeys := tkeys_any n0 X W2 b M (HT.out.grown hg2) (HP.out.few)
  clear hn hg2 hr2 hp2
  refine hkeys.mono ?_
  rintro e w3 ⟨v1, rfl, ho1, g1⟩
  rw [hs2] at ho1
  have h3 : PrvAt n w w3 v1 (.slice none 0 0) (keysM M) [] := ⟨ho1, World.ownsRow_nil _ _ _ _, g1.heap HM2.out.1 (by simp), g1.heap HM2.out.2 (by simp), (fun _ _ e => by cases e), grownBy_trans HG2.out g1⟩
  have hal := alike_any (n + 2) v1 (keysM M) key d w3 ho1 (by rw [keys_len]; exact HP.out.few) (fun s hs => by rw [keys16 HP.out.k16 hs]; unfold maxLen; omega) (by rw [HK.out]; unfold maxLen; omega)
  rw [capD_at d HD.out] at hal
  have HAL := Lib.hid hal
  have H3 := Lib.hid h3
  clear ho1 g1 hkeys hs2 hal h3 HM2 HG2
  go_wp2_with fail
  refine HAL.out.mono ?_
  rintro e w4 ⟨v2, rfl, hb4, ho4, g4⟩
  have h4 := H3.out.alike HN.out g4 ho4 hb4
  have H4 := Lib.hid h4
  clear hb4 ho4 g4 h4 H3 HAL
  go_wp2_with fail
  go_loopw [9, 10] (fun kv dv wr => ∃ (dep : Nat) (bv : Value) (Bk : List ByteArray), dv = .int .i64 dep ∧ Hid (PrvAt n w wr kv bv (likeL key dep (keysM M)) Bk) ∧ Hid (d ≤ dep ∧ dep ≤ 128 ∧ Bk ++ wayT M key dep = wayT M key d ∧ restT M key dep = restT M key d)) (fun _ dv _ => 128 - (intOf dv).toNat)
  case atStart => exact ⟨d, _, [], rfl, H4.out, Lib.hid ⟨Nat.le_refl _, HD.out, rfl, rfl⟩⟩
  case round =>
    clear H4
    obtain ⟨dep, bv, Bk, rfl, HA, HB⟩ := hrel
    obtain ⟨ka, kc, rfl⟩ := slice_own' HA.out.keys
    obtain ⟨ba, bc, rfl⟩ := slice_own' HA.out.way
    obtain ⟨m, hm⟩ : ∃ m, (likeL key dep (keysM M)).length = m := ⟨_, rfl⟩
    have hms : (startM M key dep).length = m := by rw [← like_len]; exact hm
    rw [hm] at HA ⊢
    have hcp : wr.cell? ⟨n + 1, 0, none⟩ = some (.slice ba Bk.length bc) := by rw [cell_of HA.out.prf]; rfl
    by_cases hlt : 1 < m
    · have hdep : dep < 128 := start_two (key := key) HT.out.one HP.out.k16 HB.out.2.1 (by omega)
      have hway := wayT_more hdep (show 2 ≤ (startM M key dep).length by omega)
      have d3 : (m : Int) > 1 := by omega
      obtain ⟨x, hx⟩ : ∃ x, nodeN (128 - (dep + 1)) (offS key dep (startM M key dep)) (dep + 1) = x := ⟨_, rfl⟩
      rw [hx] at hway
      have HTU := Lib.hid (fun w0 : World => turned_any key HK.out dep hdep w0)
      have HNO : Hid (∀ (s : ByteArray) (w0 : World), (s.size = 16 ∧ ∀ i, i < 128 → bitS s i = if i = dep then 1 - bitS key i else bitS key i) → wr.grownBy w0 none → Calls Tryz.prog 61 #[.pointer (some ⟨b, 0, none⟩), .string s, .int .i64 ((dep : Int) + 1)] w0 fun e w' => e = .returned (.string x) ∧ w0.grownBy w' none) := by
        intro s w0 hs g
        have h := tnode_any n0 X w0 b M s ((dep : Int) + 1) (HT.out.grown (grownBy_trans HA.out.grown g)) HP.out (by rw [hs.1]; unfold maxLen; omega) (HR.out.grown (grownBy_trans HA.out.grown g))
        rw [show capD ((dep : Int) + 1) = dep + 1 from by unfold capD; omega, beside_node hdep hs.2, hx] at h
        exact h
      have r1 : IntKind.i64.wrap ((dep : Int) + 1) = (dep : Int) + 1 := IntWalk.i64_in _ (by omega)
      have hbl : Bk.length + (wayT M key dep).length = (wayT M key d).length := by rw [← List.length_append, HB.out.2.2.1]
      have hwl : (wayT M key d).length ≤ 128 - d := way_len key (128 - d) d _
      have HBL := Lib.hid (show Bk.length + 1 ≤ 129 by omega)
      have hsz1 : Bk.length + 1 ≤ maxLen := by unfold maxLen; omega
      have hsz2 : (Bk.length + 1) * 16 ≤ 140737488355328 := by omega
      have HSZ := Lib.hid (And.intro hsz1 hsz2)
      have HREL : Hid (d ≤ dep + 1 ∧ dep + 1 ≤ 128 ∧ (Bk ++ [x]) ++ wayT M key (dep + 1) = wayT M key d ∧ restT M key (dep + 1) = restT M key d) := by
        refine ⟨by have := HB.out.1; omega, by omega, ?_, ?_⟩
        · rw [← HB.out.2.2.1, hway.1, List.append_assoc]; rfl
        · rw [← hway.2]; exact HB.out.2.2.2
      have HAL : Hid (∀ (w9 : World) (bv : Value) (Bk' : List ByteArray), PrvAt n w w9 (.slice ka m kc) bv (likeL key dep (keysM M)) Bk' → Calls Tryz.prog 76 #[.slice ka m kc, .string key, .int .i64 ((dep : Int) + 1)] w9 fun e w' => ∃ v', e = .returned v' ∧ PrvAt n w w' v' bv (likeL key (dep + 1) (keysM M)) Bk') := by
        intro w9 bv Bk' h9
        have h := alike_any (n + 2) (.slice ka m kc) (likeL key dep (keysM M)) key ((dep : Int) + 1) w9 h9.keys (by rw [like_len]; exact Nat.le_trans (List.length_filter_le _ _) HP.out.few) (fun s hs => by rw [like_mem HP.out.k16 hs]; unfold maxLen; omega) (by rw [HK.out]; unfold maxLen; omega)
        rw [show capD ((dep : Int) + 1) = dep + 1 from by unfold capD; omega, likeL_like] at h
        refine h.mono ?_
        rintro e w' ⟨v', rfl, hb, ho, g⟩
        exact ⟨v', rfl, h9.alike HN.out g ho hb⟩
      clear hx hway hbl hwl hsz1 hsz2 hm hms
      go_wp2_with fail
      --REG
      refine wp_region_any (by kernel_rfl) ?_
      try (change wpAny _ _ _ _ _ _ _ (World.drew _))
      refine wpAny_take (i := 0) (v := ?vpv_0) rfl (by kernel_rfl) (by kernel_rfl) (by kernel_rfl) (fun _ _ _ h => h) (Or.inl ⟨by rfl, ?hpv_0⟩) ?rpv_0
      case hpv_0 => (intro w0; go_simp; (try with_reducible rfl))
      try simp only [Act.put, List.setIfInBounds_toArray, List.set_cons_zero, List.set_cons_succ]
      refine wpAny_take (i := 2) (v := ?vpv_1) rfl (by kernel_rfl) (by kernel_rfl) (by kernel_rfl) (fun _ _ _ h => h) (Or.inl ⟨by rfl, ?hpv_1⟩) ?rpv_1
      case hpv_1 => (intro w0; go_simp; (try with_reducible rfl))
      try simp only [Act.put, List.setIfInBounds_toArray, List.set_cons_zero, List.set_cons_succ]
      refine wpAny_take (i := 3) (v := ?vpv_2) rfl (by kernel_rfl) (by kernel_rfl) (by kernel_rfl) (fun _ _ _ h => h) (Or.inl ⟨by rfl, ?hpv_2⟩) ?rpv_2
      case hpv_2 => (intro w0; go_simp; (try with_reducible rfl))
      try simp only [Act.put, List.setIfInBounds_toArray, List.set_cons_zero, List.set_cons_succ]
      refine wpAny_take (i := 4) (v := ?vpv_3) rfl (by kernel_rfl) (by kernel_rfl) (by kernel_rfl) (fun _ _ _ h => h) (Or.inl ⟨by rfl, ?hpv_3⟩) ?rpv_3
      case hpv_3 => (intro w0; go_simp; (try with_reducible rfl))
      try simp only [Act.put, List.setIfInBounds_toArray, List.set_cons_zero, List.set_cons_succ]
      refine wpAny_take (i := 6) (v := ?vpv_4) rfl (by kernel_rfl) (by kernel_rfl) (by kernel_rfl) (fun _ _ _ h => h) (Or.inl ⟨by rfl, ?hpv_4⟩) ?rpv_4
      case hpv_4 => (intro w0; go_simp; (try with_reducible rfl))
      try simp only [Act.put, List.setIfInBounds_toArray, List.set_cons_zero, List.set_cons_succ]
      refine wpAny_take (i := 7) (v := ?vpv_5) rfl (by kernel_rfl) (by kernel_rfl) (by kernel_rfl) (fun _ _ _ h => h) (Or.inl ⟨by rfl, ?hpv_5⟩) ?rpv_5
      case hpv_5 => (intro w0; go_simp; (try with_reducible rfl))
      try simp only [Act.put, List.setIfInBounds_toArray, List.set_cons_zero, List.set_cons_succ]
      refine wpAny_ready (rs := [1, 5]) (by kernel_rfl) (by simp) ?_
      refine AllReady.cons rfl (fun K hK => ?apv_7) ?bpv_7
      case apv_7 =>
        go_simp
        refine hK _ _ ?_
        clear hK K
        try simp only [Act.put, List.setIfInBounds_toArray, List.set_cons_zero, List.set_cons_succ]
        refine wpAny_ready (rs := [5]) (by kernel_rfl) (by simp) ?_
        refine AllReady.cons rfl (fun K hK => ?apv_8) ?bpv_8
        case apv_8 =>
          (go_simp; go_at_call 78; (with_reducible refine (HTU.out _).mono ?_); rintro e w6 ⟨s, rfl, hsb, g6⟩; have HSB := Lib.hid hsb; clear hsb; have gk6 := grownBy_trans (grownBy_drew (World.grownBy.refl wr none)) g6; have hc6 : w6.cell? ⟨n + 1, 0, none⟩ = some (.slice ba Bk.length bc) := g6.cell hcp (by simp); clear g6)
          refine hK _ _ ?_
          clear hK K
          try simp only [Act.put, List.setIfInBounds_toArray, List.set_cons_zero, List.set_cons_succ]
          refine wpAny_ready (rs := [8]) (by kernel_rfl) (by simp) ?_
          refine AllReady.cons rfl (fun K hK => ?apv_9) ?bpv_9
          case apv_9 =>
            (go_simp; go_at_call 61; (with_reducible refine (HNO.out _ _ HSB.out gk6).mono ?_); rintro e w7 ⟨rfl, g7⟩; have hc7 : w7.cell? ⟨n + 1, 0, none⟩ = some (.slice ba Bk.length bc) := g7.cell hc6 (by simp); have gk7 := grownBy_trans gk6 g7; clear g7)
            refine hK _ _ ?_
            clear hK K
            try simp only [Act.put, List.setIfInBounds_toArray, List.set_cons_zero, List.set_cons_succ]
            refine wpAny_ready (rs := [9]) (by kernel_rfl) (by simp) ?_
            refine AllReady.cons rfl (fun K hK => ?apv_10) ?bpv_10
            case apv_10 =>
              go_simp
              refine hK _ _ ?_
              clear hK K
              try simp only [Act.put, List.setIfInBounds_toArray, List.set_cons_zero, List.set_cons_succ]
              refine wpAny_ready (rs := [10]) (by kernel_rfl) (by simp) ?_
              refine AllReady.cons rfl (fun K hK => ?apv_11) ?bpv_11
              case apv_11 =>
                (refine step_append_lies _ rfl (.tmp 35) (.tmp 43) 33 rfl (n + 2) 9 i0 (.string ⟨#[]⟩) 1 16 Tryz.underlying33 hti hz0 hz1 hz2 rfl (by decide) (.slice ba Bk.length bc) Bk.length (strsV Bk) rfl ((HA.out.grow gk7).way.alloc _) ⟨w7.heap.size, 0, none⟩ 1 1 [.string x] rfl rfl (lit_one w7 x) (one_textP x) (Nat.zero_lt_one) HSZ.out.1 HSZ.out.2 (Nat.le_trans HA.out.size (size_allocP gk7 _)) _ rfl ?_; intro g8 c8 w8 ho8 hg8 hor _; rw [push_strs] at ho8; have HPU := Lib.hid (HA.out.push HN.out gk7 hg8 ho8 hor); have h8 := HA.out.prf8 gk7 hg8; have hc8 := h8.1; have hf8 := h8.2.1; clear h8 ho8 hg8 hor)
                refine hK _ _ ?_
                clear hK K
                try simp only [Act.put, List.setIfInBounds_toArray, List.set_cons_zero, List.set_cons_succ]
                refine wpAny_take (i := 11) (v := ?vpv_11) rfl (by kernel_rfl) (by kernel_rfl) (by kernel_rfl) (fun _ _ _ h => h) (Or.inl ⟨by rfl, ?hpv_11⟩) ?rpv_11
                case hpv_11 => (intro w0; go_simp; (try with_reducible rfl))
                try simp only [Act.put, List.setIfInBounds_toArray, List.set_cons_zero, List.set_cons_succ]
                refine wpAny_ready (rs := [12]) (by kernel_rfl) (by simp) ?_
                refine AllReady.cons rfl (fun K hK => ?apv_13) ?bpv_13
                case apv_13 =>
                  go_simp
                  refine hK _ _ ?_
                  clear hK K
                  try simp only [Act.put, List.setIfInBounds_toArray, List.set_cons_zero, List.set_cons_succ]
                  refine wpAny_done (by kernel_rfl) ?_ _
                  try dsimp only
                  (go_wp2_with fail; refine (HAL.out _ _ _ HPU.out).mono ?_; rintro e w10 ⟨v2', rfl, hA2⟩; have HA2 := Lib.hid hA2; clear hA2; go_wp2_with fail; go_roundw; (case rel => exact ⟨dep + 1, _, Bk ++ [x], by go_num, HA2.out, HREL.out⟩); (case measure => simp [intOf]; omega))
                case bpv_13 =>
                  exact AllReady.nil
              case bpv_11 =>
                exact AllReady.nil
            case bpv_10 =>
              exact AllReady.nil
          case bpv_9 =>
            exact AllReady.nil
        case bpv_8 =>
          exact AllReady.nil
      case bpv_7 =>
        refine AllReady.cons rfl (fun K hK => ?apv_14) ?bpv_14
        case apv_14 =>
          (go_simp; go_at_call 78; (with_reducible refine (HTU.out _).mono ?_); rintro e w6 ⟨s, rfl, hsb, g6⟩; have HSB := Lib.hid hsb; clear hsb; have gk6 := grownBy_trans (grownBy_drew (World.grownBy.refl wr none)) g6; have hc6 : w6.cell? ⟨n + 1, 0, none⟩ = some (.slice ba Bk.length bc) := g6.cell hcp (by simp); clear g6)
          refine hK _ _ ?_
          clear hK K
          try simp only [Act.put, List.setIfInBounds_toArray, List.set_cons_zero, List.set_cons_succ]
          refine wpAny_ready (rs := [1, 8]) (by kernel_rfl) (by simp) ?_
          refine AllReady.cons rfl (fun K hK => ?apv_15) ?bpv_15
          case apv_15 =>
            go_simp
            refine hK _ _ ?_
            clear hK K
            try simp only [Act.put, List.setIfInBounds_toArray, List.set_cons_zero, List.set_cons_succ]
            refine wpAny_ready (rs := [8]) (by kernel_rfl) (by simp) ?_
            refine AllReady.cons rfl (fun K hK => ?apv_16) ?bpv_16
            case apv_16 =>
              (go_simp; go_at_call 61; (with_reducible refine (HNO.out _ _ HSB.out gk6).mono ?_); rintro e w7 ⟨rfl, g7⟩; have hc7 : w7.cell? ⟨n + 1, 0, none⟩ = some (.slice ba Bk.length bc) := g7.cell hc6 (by simp); have gk7 := grownBy_trans gk6 g7; clear g7)
              refine hK _ _ ?_
              clear hK K
              try simp only [Act.put, List.setIfInBounds_toArray, List.set_cons_zero, List.set_cons_succ]
              refine wpAny_ready (rs := [9]) (by kernel_rfl) (by simp) ?_
              refine AllReady.cons rfl (fun K hK => ?apv_17) ?bpv_17
              case apv_17 =>
                go_simp
                refine hK _ _ ?_
                clear hK K
                try simp only [Act.put, List.setIfInBounds_toArray, List.set_cons_zero, List.set_cons_succ]
                refine wpAny_ready (rs := [10]) (by kernel_rfl) (by simp) ?_
                refine AllReady.cons rfl (fun K hK => ?apv_18) ?bpv_18
                case apv_18 =>
                  (refine step_append_lies _ rfl (.tmp 35) (.tmp 43) 33 rfl (n + 2) 9 i0 (.string ⟨#[]⟩) 1 16 Tryz.underlying33 hti hz0 hz1 hz2 rfl (by decide) (.slice ba Bk.length bc) Bk.length (strsV Bk) rfl ((HA.out.grow gk7).way.alloc _) ⟨w7.heap.size, 0, none⟩ 1 1 [.string x] rfl rfl (lit_one w7 x) (one_textP x) (Nat.zero_lt_one) HSZ.out.1 HSZ.out.2 (Nat.le_trans HA.out.size (size_allocP gk7 _)) _ rfl ?_; intro g8 c8 w8 ho8 hg8 hor _; rw [push_strs] at ho8; have HPU := Lib.hid (HA.out.push HN.out gk7 hg8 ho8 hor); have h8 := HA.out.prf8 gk7 hg8; have hc8 := h8.1; have hf8 := h8.2.1; clear h8 ho8 hg8 hor)
                  refine hK _ _ ?_
                  clear hK K
                  try simp only [Act.put, List.setIfInBounds_toArray, List.set_cons_zero, List.set_cons_succ]
                  refine wpAny_take (i := 11) (v := ?vpv_18) rfl (by kernel_rfl) (by kernel_rfl) (by kernel_rfl) (fun _ _ _ h => h) (Or.inl ⟨by rfl, ?hpv_18⟩) ?rpv_18
                  case hpv_18 => (intro w0; go_simp; (try with_reducible rfl))
                  try simp only [Act.put, List.setIfInBounds_toArray, List.set_cons_zero, List.set_cons_succ]
                  refine wpAny_ready (rs := [12]) (by kernel_rfl) (by simp) ?_
                  refine AllReady.cons rfl (fun K hK => ?apv_20) ?bpv_20
                  case apv_20 =>
                    go_simp
                    refine hK _ _ ?_
                    clear hK K
                    try simp only [Act.put, List.setIfInBounds_toArray, List.set_cons_zero, List.set_cons_succ]
                    refine wpAny_done (by kernel_rfl) ?_ _
                    try dsimp only
                    (go_wp2_with fail; refine (HAL.out _ _ _ HPU.out).mono ?_; rintro e w10 ⟨v2', rfl, hA2⟩; have HA2 := Lib.hid hA2; clear hA2; go_wp2_with fail; go_roundw; (case rel => exact ⟨dep + 1, _, Bk ++ [x], by go_num, HA2.out, HREL.out⟩); (case measure => simp [intOf]; omega))
                  case bpv_20 =>
                    exact AllReady.nil
                case bpv_18 =>
                  exact AllReady.nil
              case bpv_17 =>
                exact AllReady.nil
            case bpv_16 =>
              exact AllReady.nil
          case bpv_15 =>
            refine AllReady.cons rfl (fun K hK => ?apv_21) ?bpv_21
            case apv_21 =>
              (go_simp; go_at_call 61; (with_reducible refine (HNO.out _ _ HSB.out gk6).mono ?_); rintro e w7 ⟨rfl, g7⟩; have hc7 : w7.cell? ⟨n + 1, 0, none⟩ = some (.slice ba Bk.length bc) := g7.cell hc6 (by simp); have gk7 := grownBy_trans gk6 g7; clear g7)
              refine hK _ _ ?_
              clear hK K
              try simp only [Act.put, List.setIfInBounds_toArray, List.set_cons_zero, List.set_cons_succ]
              refine wpAny_ready (rs := [1, 9]) (by kernel_rfl) (by simp) ?_
              refine AllReady.cons rfl (fun K hK => ?apv_22) ?bpv_22
              case apv_22 =>
                go_simp
                refine hK _ _ ?_
                clear hK K
                try simp only [Act.put, List.setIfInBounds_toArray, List.set_cons_zero, List.set_cons_succ]
                refine wpAny_ready (rs := [9]) (by kernel_rfl) (by simp) ?_
                refine AllReady.cons rfl (fun K hK => ?apv_23) ?bpv_23
                case apv_23 =>
                  go_simp
                  refine hK _ _ ?_
                  clear hK K
                  try simp only [Act.put, List.setIfInBounds_toArray, List.set_cons_zero, List.set_cons_succ]
                  refine wpAny_ready (rs := [10]) (by kernel_rfl) (by simp) ?_
                  refine AllReady.cons rfl (fun K hK => ?apv_24) ?bpv_24
                  case apv_24 =>
                    (refine step_append_lies _ rfl (.tmp 35) (.tmp 43) 33 rfl (n + 2) 9 i0 (.string ⟨#[]⟩) 1 16 Tryz.underlying33 hti hz0 hz1 hz2 rfl (by decide) (.slice ba Bk.length bc) Bk.length (strsV Bk) rfl ((HA.out.grow gk7).way.alloc _) ⟨w7.heap.size, 0, none⟩ 1 1 [.string x] rfl rfl (lit_one w7 x) (one_textP x) (Nat.zero_lt_one) HSZ.out.1 HSZ.out.2 (Nat.le_trans HA.out.size (size_allocP gk7 _)) _ rfl ?_; intro g8 c8 w8 ho8 hg8 hor _; rw [push_strs] at ho8; have HPU := Lib.hid (HA.out.push HN.out gk7 hg8 ho8 hor); have h8 := HA.out.prf8 gk7 hg8; have hc8 := h8.1; have hf8 := h8.2.1; clear h8 ho8 hg8 hor)
                    refine hK _ _ ?_
                    clear hK K
                    try simp only [Act.put, List.setIfInBounds_toArray, List.set_cons_zero, List.set_cons_succ]
                    refine wpAny_take (i := 11) (v := ?vpv_24) rfl (by kernel_rfl) (by kernel_rfl) (by kernel_rfl) (fun _ _ _ h => h) (Or.inl ⟨by rfl, ?hpv_24⟩) ?rpv_24
                    case hpv_24 => (intro w0; go_simp; (try with_reducible rfl))
                    try simp only [Act.put, List.setIfInBounds_toArray, List.set_cons_zero, List.set_cons_succ]
                    refine wpAny_ready (rs := [12]) (by kernel_rfl) (by simp) ?_
                    refine AllReady.cons rfl (fun K hK => ?apv_26) ?bpv_26
                    case apv_26 =>
                      go_simp
                      refine hK _ _ ?_
                      clear hK K
                      try simp only [Act.put, List.setIfInBounds_toArray, List.set_cons_zero, List.set_cons_succ]
                      refine wpAny_done (by kernel_rfl) ?_ _
                      try dsimp only
                      (go_wp2_with fail; refine (HAL.out _ _ _ HPU.out).mono ?_; rintro e w10 ⟨v2', rfl, hA2⟩; have HA2 := Lib.hid hA2; clear hA2; go_wp2_with fail; go_roundw; (case rel => exact ⟨dep + 1, _, Bk ++ [x], by go_num, HA2.out, HREL.out⟩); (case measure => simp [intOf]; omega))
                    case bpv_26 =>
                      exact AllReady.nil
                  case bpv_24 =>
                    exact AllReady.nil
                case bpv_23 =>
                  exact AllReady.nil
              case bpv_22 =>
                refine AllReady.cons rfl (fun K hK => ?apv_27) ?bpv_27
                case apv_27 =>
                  go_simp
                  refine hK _ _ ?_
                  clear hK K
                  try simp only [Act.put, List.setIfInBounds_toArray, List.set_cons_zero, List.set_cons_succ]
                  refine wpAny_ready (rs := [1]) (by kernel_rfl) (by simp) ?_
                  refine AllReady.cons rfl (fun K hK => ?apv_28) ?bpv_28
                  case apv_28 =>
                    (have hc7a : (w7.alloc (.cells #[.string x] 9)).cell? ⟨n + 1, 0, none⟩ = some (.slice ba Bk.length bc) := (World.grownBy_alloc w7 _ none).cell hc7 (by simp); go_simp)
                    refine hK _ _ ?_
                    clear hK K
                    try simp only [Act.put, List.setIfInBounds_toArray, List.set_cons_zero, List.set_cons_succ]
                    refine wpAny_ready (rs := [10]) (by kernel_rfl) (by simp) ?_
                    refine AllReady.cons rfl (fun K hK => ?apv_29) ?bpv_29
                    case apv_29 =>
                      (refine step_append_lies _ rfl (.tmp 35) (.tmp 43) 33 rfl (n + 2) 9 i0 (.string ⟨#[]⟩) 1 16 Tryz.underlying33 hti hz0 hz1 hz2 rfl (by decide) (.slice ba Bk.length bc) Bk.length (strsV Bk) rfl ((HA.out.grow gk7).way.alloc _) ⟨w7.heap.size, 0, none⟩ 1 1 [.string x] rfl rfl (lit_one w7 x) (one_textP x) (Nat.zero_lt_one) HSZ.out.1 HSZ.out.2 (Nat.le_trans HA.out.size (size_allocP gk7 _)) _ rfl ?_; intro g8 c8 w8 ho8 hg8 hor _; rw [push_strs] at ho8; have HPU := Lib.hid (HA.out.push HN.out gk7 hg8 ho8 hor); have h8 := HA.out.prf8 gk7 hg8; have hc8 := h8.1; have hf8 := h8.2.1; clear h8 ho8 hg8 hor)
                      refine hK _ _ ?_
                      clear hK K
                      try simp only [Act.put, List.setIfInBounds_toArray, List.set_cons_zero, List.set_cons_succ]
                      refine wpAny_take (i := 11) (v := ?vpv_29) rfl (by kernel_rfl) (by kernel_rfl) (by kernel_rfl) (fun _ _ _ h => h) (Or.inl ⟨by rfl, ?hpv_29⟩) ?rpv_29
                      case hpv_29 => (intro w0; go_simp; (try with_reducible rfl))
                      try simp only [Act.put, List.setIfInBounds_toArray, List.set_cons_zero, List.set_cons_succ]
                      refine wpAny_ready (rs := [12]) (by kernel_rfl) (by simp) ?_
                      refine AllReady.cons rfl (fun K hK => ?apv_31) ?bpv_31
                      case apv_31 =>
                        go_simp
                        refine hK _ _ ?_
                        clear hK K
                        try simp only [Act.put, List.setIfInBounds_toArray, List.set_cons_zero, List.set_cons_succ]
                        refine wpAny_done (by kernel_rfl) ?_ _
                        try dsimp only
                        (go_wp2_with fail; refine (HAL.out _ _ _ HPU.out).mono ?_; rintro e w10 ⟨v2', rfl, hA2⟩; have HA2 := Lib.hid hA2; clear hA2; go_wp2_with fail; go_roundw; (case rel => exact ⟨dep + 1, _, Bk ++ [x], by go_num, HA2.out, HREL.out⟩); (case measure => simp [intOf]; omega))
                      case bpv_31 =>
                        exact AllReady.nil
                    case bpv_29 =>
                      exact AllReady.nil
                  case bpv_28 =>
                    exact AllReady.nil
                case bpv_27 =>
                  exact AllReady.nil
            case bpv_21 =>
              exact AllReady.nil
        case bpv_14 =>
          exact AllReady.nil
      --END REG
    · have hend := wayT_end (M := M) (key := key) (d := dep) (by omega)
      have hbk : Bk = wayT M key d := by have := HB.out.2.2.1; rw [hend.1, List.append_nil] at this; exact this
      have hrs : restT M key d = startM M key dep := by rw [← HB.out.2.2.2, hend.2]
      have d3 : ¬ (m : Int) > 1 := by omega
      have hbase : ∀ w', wr.grownBy w' none → w'.ownsRow w.heap.size 9 1 (.slice ba Bk.length bc) (wayT M key d).length (strsV (wayT M key d)) := by
        intro w' g
        have := own_low (HA.out.grow g).way (B' := w.heap.size) (by rw [HN.out]; omega)
        rw [hbk] at this ⊢
        exact this
      have q1 : wr.cell? ⟨n + 1, 1, none⟩ = some (.bool false) := by rw [cell_of HA.out.prf]; rfl
      have q2 : wr.cell? ⟨n + 1, 2, none⟩ = some (.string ⟨#[]⟩) := by rw [cell_of HA.out.prf]; rfl
      have q3 : wr.cell? ⟨n + 1, 3, none⟩ = some (.string ⟨#[]⟩) := by rw [cell_of HA.out.prf]; rfl
      have z0 : wr.cell? ⟨n, 0, none⟩ = some (.slice none 0 0) := by rw [cell_of HA.out.res]; rfl
      have z1 : wr.cell? ⟨n, 1, none⟩ = some (.bool false) := by rw [cell_of HA.out.res]; rfl
      have z2 : wr.cell? ⟨n, 2, none⟩ = some (.string ⟨#[]⟩) := by rw [cell_of HA.out.res]; rfl
      have z3 : wr.cell? ⟨n, 3, none⟩ = some (.string ⟨#[]⟩) := by rw [cell_of HA.out.res]; rfl
      have fz0 : ∀ j, wr.frozen? ⟨n, j, none⟩ = false := fun j => frozen_of_row _ _ _ _ _ HA.out.res
      by_cases h1 : m = 1
      · subst h1
        have hone := like_one M key dep hms
        have hval := val_one HT.out.one key dep hms
        have hk1 := HA.out.keys
        rw [hone] at hk1
        obtain ⟨g, rfl⟩ : ∃ g, ka = some ⟨g, 0, none⟩ := by
          rcases own_form' hk1 with ⟨_, e⟩ | ⟨g, cap, e, _, _⟩
          · cases e
          · cases e; exact ⟨g, rfl⟩
        have hcg : wr.cell? ⟨g, 0, none⟩ = some (.string (keyOf (startM M key dep))) := str_cell hk1 rfl
        have hkk : (keyOf (startM M key dep)).size = 16 := like_mem (M := M) (key := key) (d := dep) HP.out.k16 (by rw [hone]; exact List.mem_cons_self)
        have hne : restT M key d ≠ [] := by rw [hrs]; intro e; rw [e] at hms; cases hms
        have HRS := Lib.hid hrs
        have HNE := Lib.hid hne
        have HGET := Lib.hid (fun (w9 : World) (q : w.grownBy w9 none) => tget_any n0 X w9 b M (keyOf (startM M key dep)) (HT.out.grown q) (by rw [hkk]; unfold maxLen; omega))
        rw [hval] at HGET
        obtain ⟨k0, hk0⟩ : ∃ k0, keyOf (startM M key dep) = k0 := ⟨_, rfl⟩
        obtain ⟨y0, hy0⟩ : ∃ y0, valOf (startM M key dep) = y0 := ⟨_, rfl⟩
        rw [hk0, hy0] at HGET
        rw [hk0] at hcg
        have HKY := Lib.hid (And.intro hk0 hy0)
        have HBASE := Lib.hid hbase
        have g0 : ∀ j, wr.frozen? ⟨n + 1, j, none⟩ = false := fun j => frozen_of_row _ _ _ _ _ HA.out.prf
        have i0' : (0 : Int) < 1 := by omega
        have hgn : g ≠ n + 1 := by have := (HA.out.keys.lt g rfl).1; omega
        clear hbase hend hbk hrs hne hm hms hlt hone hval hk1 hkk hk0 hy0
        go_wp2_with fail
        go_region
        have hb9 : ((wr.setCell ⟨n + 1, 1, none⟩ (.bool true)).setCell ⟨n + 1, 2, none⟩ (.string k0)).drew.heap[n + 1]? = some (.cells #[.slice ba Bk.length bc, .bool true, .string k0, .string ⟨#[]⟩] 92 (0, 0)) := by
          have h := heap_setCell (heap_setCell HA.out.prf 1 (.bool true)) 2 (.string k0)
          exact h.trans rfl
        have hg9 : wr.grownBy ((wr.setCell ⟨n + 1, 1, none⟩ (.bool true)).setCell ⟨n + 1, 2, none⟩ (.string k0)).drew (some (n + 1)) := grownBy_drew (grownBy_setCell (grownBy_setCell (World.grownBy.refl wr _) 1 _) 2 _)
        obtain ⟨W9, hW9⟩ : ∃ W9, ((wr.setCell ⟨n + 1, 1, none⟩ (.bool true)).setCell ⟨n + 1, 2, none⟩ (.string k0)).drew = W9 := ⟨_, rfl⟩
        rw [hW9] at hb9 hg9 ⊢
        have t2 : W9.cell? ⟨n + 1, 2, none⟩ = some (.string k0) := by rw [cell_of hb9]; rfl
        have t0 : W9.cell? ⟨n + 1, 0, none⟩ = some (.slice ba Bk.length bc) := by rw [cell_of hb9]; rfl
        have t1 : W9.cell? ⟨n + 1, 1, none⟩ = some (.bool true) := by rw [cell_of hb9]; rfl
        have t3 : W9.cell? ⟨n + 1, 3, none⟩ = some (.string ⟨#[]⟩) := by rw [cell_of hb9]; rfl
        have u0 : ∀ j, W9.frozen? ⟨n + 1, j, none⟩ = false := fun j => frozen_of_row _ _ _ _ _ hb9
        have hr9 := hg9.heap HA.out.res (by simp)
        have s0 : W9.cell? ⟨n, 0, none⟩ = some (.slice none 0 0) := by rw [cell_of hr9]; rfl
        have s1 : W9.cell? ⟨n, 1, none⟩ = some (.bool false) := by rw [cell_of hr9]; rfl
        have s2 : W9.cell? ⟨n, 2, none⟩ = some (.string ⟨#[]⟩) := by rw [cell_of hr9]; rfl
        have s3 : W9.cell? ⟨n, 3, none⟩ = some (.string ⟨#[]⟩) := by rw [cell_of hr9]; rfl
        have f0 : ∀ j, W9.frozen? ⟨n, j, none⟩ = false := fun j => frozen_of_row _ _ _ _ _ hr9
        have hw9 : w.grownBy W9 none := grown_row HA.out.grown hg9 (fun x e => by have e2 : n + 1 = x := Option.some.inj e; have := HN.out; omega)
        have HW9 := Lib.hid (And.intro hg9 (And.intro hr9 hw9))
        have HB9 := Lib.hid hb9
        clear hW9 hb9 hg9 hr9 hw9 hcp q1 q2 q3 g0 hcg
        go_wp2_with fail
        refine (HGET.out W9 HW9.out.2.2).mono ?_
        rintro e w10 ⟨rfl, rfl⟩
        go_wp2_with fail
        have hr10 : (W9.setCell ⟨n + 1, 3, none⟩ (.string y0)).heap[n]? = some (.cells emptyP 92 (0, 0)) := by rw [heap_setCell_ne _ _ _ _ (by omega)]; exact HW9.out.2.1
        have hg10 : w.grownBy (W9.setCell ⟨n + 1, 3, none⟩ (.string y0)) none := grownBy_setNew HW9.out.2.2 (by rw [HN.out]; omega) _ _
        have hb10 : (W9.setCell ⟨n + 1, 3, none⟩ (.string y0)).ownsRow w.heap.size 9 1 (.slice ba Bk.length bc) (wayT M key d).length (strsV (wayT M key d)) :=
          own_keep (HBASE.out wr (World.grownBy.refl _ _)) (grownBy_setCell HW9.out.1 3 (.string y0)) (fun x hx e => by have e2 : n + 1 = x := Option.some.inj e; have := (HA.out.way.lt x hx).1; omega)
        refine bodyPost_ret (results_prove (n := n) (v0 := .slice ba Bk.length bc) (v1 := .bool true) (v2 := .string k0) (v3 := .string y0) rfl rfl (heap4 hr10 _ _ _ _)) rfl ?_
        refine ⟨.slice ba Bk.length bc, ?_, ?_, ?_⟩
        · rw [decide_eq_true HNE.out, HRS.out, HKY.out.1, HKY.out.2]
        · exact own_keep hb10 (grown4 _ n _ _ _ _) (fun x hx e => by have e2 : n = x := Option.some.inj e; have := (HA.out.way.lt x hx).1; omega)
        · exact grown_row hg10 (grown4 _ n _ _ _ _) (fun g e => by have e2 : n = g := Option.some.inj e; have := HN.out; omega)
      · have h0 : m = 0 := by omega
        subst h0
        have hnil : startM M key dep = [] := List.length_eq_zero_iff.1 hms
        have HRS := Lib.hid (hrs.trans hnil)
        have HBASE := Lib.hid hbase
        clear hbase hend hbk hrs hnil hm hms hlt h1
        go_wp2_with fail
        refine bodyPost_ret (results_prove (n := n) (v0 := .slice ba Bk.length bc) (v1 := .bool false) (v2 := .string ⟨#[]⟩) (v3 := .string ⟨#[]⟩) rfl rfl (heap4 HA.out.res _ _ _ _)) rfl ?_
        refine ⟨.slice ba Bk.length bc, by rw [HRS.out]; rfl, ?_, ?_⟩
        · exact own_keep (HBASE.out wr (World.grownBy.refl _ _)) (grown4 wr n _ _ _ _) (fun x hx e => by have e2 : n = x := Option.some.inj e; have := (HA.out.way.lt x hx).1; omega)
        · exact grown_row HA.out.grown (grown4 wr n _ _ _ _) (fun g e => by have e2 : n = g := Option.some.inj e; have := HN.out; omega)
end Go.Proofs.YtbhoeiopckmfhaaGreatDoor

namespace Go.Proofs.YtbhoeiopckmfhaaGreatDoor
open Go.RowKit Go.Shelf
attribute [local irreducible] shaL
attribute [local go_sem] Oper.semAt_some

theorem joinN_few (a b : ByteArray) (ha : a.size ≤ 1000) (hb : b.size ≤ 1000) : (joinN a b).size ≤ 1000 := by
  unfold joinN
  split
  · exact hb
  · split
    · exact ha
    · rw [bothS_size]; omega
theorem climb_few (key : ByteArray) : ∀ (L : List ByteArray) (d : Nat) (x : ByteArray), (∀ s ∈ L, s.size ≤ 1000) → x.size ≤ 1000 → (climbN key d L x).size ≤ 1000
  | [], _, _, _, hx => hx
  | b :: r, d, x, hL, hx => by
    have h1 := climb_few key r (d + 1) x (fun s hs => hL s (List.mem_cons_of_mem _ hs)) hx
    have h2 := hL b List.mem_cons_self
    unfold climbN
    split
    · exact joinN_few _ _ h2 h1
    · exact joinN_few _ _ h1 h2
/-- the node behind some rounds -/
def climbed (key : ByteArray) (d : Nat) (L : List ByteArray) (x : ByteArray) (k : Nat) : ByteArray := climbN key (d + (L.length - k)) (L.drop (L.length - k)) x
theorem climbed_zero (key : ByteArray) (d : Nat) (L : List ByteArray) (x : ByteArray) : climbed key d L x 0 = x := by
  unfold climbed
  rw [Nat.sub_zero, List.drop_length]
  rfl
theorem climbed_all (key : ByteArray) (d : Nat) (L : List ByteArray) (x : ByteArray) : climbed key d L x L.length = climbN key d L x := by
  unfold climbed
  rw [Nat.sub_self]
  rfl
theorem climbed_succ (key : ByteArray) (d : Nat) (L : List ByteArray) (x : ByteArray) (k : Nat) (hk : k < L.length) :
    climbed key d L x (k + 1) = if bitS key (d + (L.length - 1 - k)) = 1 then joinN (entT L (L.length - 1 - k)) (climbed key d L x k) else joinN (climbed key d L x k) (entT L (L.length - 1 - k)) := by
  have e1 : L.length - (k + 1) = L.length - 1 - k := by omega
  have e2 : L.length - k = (L.length - 1 - k) + 1 := by omega
  have hi : L.length - 1 - k < L.length := by omega
  have e3 : L.drop (L.length - 1 - k) = entT L (L.length - 1 - k) :: L.drop (L.length - 1 - k + 1) := by
    have h := entT_at L _ hi
    rw [List.getElem?_eq_getElem hi] at h
    rw [List.drop_eq_getElem_cons hi, Option.some.inj h]
  unfold climbed
  rw [e1, e3, e2]
  rfl
theorem climbed_few (key : ByteArray) (d : Nat) (L : List ByteArray) (x : ByteArray) (k : Nat) (hL : ∀ s ∈ L, s.size ≤ 1000) (hx : x.size ≤ 1000) : (climbed key d L x k).size ≤ 1000 :=
  climb_few _ _ _ _ (fun s hs => hL s (List.mem_of_mem_drop hs)) hx
theorem entT_few (L : List ByteArray) (k : Nat) (hL : ∀ s ∈ L, s.size ≤ 1000) : (entT L k).size ≤ 1000 := by
  by_cases h : k < L.length
  · exact hL _ (List.mem_of_getElem? (entT_at L k h))
  · unfold entT
    rw [List.getD_eq_getElem?_getD, List.getElem?_eq_none (by omega)]
    exact Nat.zero_le _
theorem results_climb {v : ByteArray} {tmps : Array Value} {w : World} (h : tmps[8]? = some (.string v)) : (results Tryz.f117 tmps).run Tryz.prog w = .ok (.string v) w := by
  simp [results, Tryz.results117, go_sem, h]
theorem read_putP {w W : World} {n D : Nat} {o : Obj} (h : Below n w W) (hd : n ≤ D) : Below n w (W.putObj D o) :=
  h.trans ⟨rfl, rfl, rfl, by simp, fun k hk => World.putObj_heap_other (by omega)⟩
/-- a round: past what stands beside at a place -/
def stepCP (key : ByteArray) (d : Nat) (L : List ByteArray) (nd : ByteArray) (i : Nat) : ByteArray := if bitS key (d + min i L.length) = 1 then joinN (entT L i) nd else joinN nd (entT L i)
theorem fold_climbed (key : ByteArray) (d : Nat) (L : List ByteArray) (x : ByteArray) : ∀ k, k ≤ L.length → (downsP L.length k).foldl (stepCP key d L) x = climbed key d L x k := by
  intro k
  induction k with
  | zero => intro _; rw [climbed_zero]; rfl
  | succ k ih =>
    intro hk
    rw [downsP_succ, List.foldl_append, ih (by omega), climbed_succ key d L x k (by omega)]
    show stepCP key d L _ _ = _
    unfold stepCP
    rw [Nat.min_eq_left (by omega)]
theorem fold_few (key : ByteArray) (d : Nat) (L : List ByteArray) (hL : ∀ s ∈ L, s.size ≤ 1000) : ∀ (pre : List Nat) (x : ByteArray), x.size ≤ 1000 → (pre.foldl (stepCP key d L) x).size ≤ 1000
  | [], _, hx => hx
  | i :: r, x, hx => fold_few key d L hL r _ (by
    unfold stepCP
    split
    · exact joinN_few _ _ (entT_few L i hL) hx
    · exact joinN_few _ _ hx (entT_few L i hL))
set_option maxRecDepth 100000 in
set_option maxHeartbeats 4000000 in
theorem pclimb_any (v : Value) (L : List ByteArray) (x key : ByteArray) (d : Nat) (w : World) (hr : ShaReady w) (hv : StrsAt w v L) (hs : ∀ s ∈ L, s.size ≤ 1000) (hx : x.size ≤ 1000) (hk : key.size = 16) (hd : d + L.length ≤ 128) (hvb : ∀ g, v.ownBlock = some g → g < w.heap.size) :
    Calls Tryz.prog 117 #[.string x, .string key, .int .i64 d, v] w fun e w' => e = .returned (.string (climbN key d L x)) ∧ Below w.heap.size w w' := by
  obtain ⟨va, vn, vc, rfl⟩ : ∃ a n c, v = .slice a n c := by obtain ⟨a, c, rfl, _⟩ := hv; exact ⟨_, _, _, rfl⟩
  have HR := Lib.hid hr
  have HV := Lib.hid hv
  have HS := Lib.hid hs
  have HX := Lib.hid hx
  have HK := Lib.hid hk
  have HD := Lib.hid hd
  have HVB := Lib.hid hvb
  clear hr hv hs hx hk hd hvb
  refine (callsIn_wide (n := 6)).1 ?_
  refine callsIn_of_wp_marks Tryz.func117 rfl trivial ?_ rfl
  simp only [Tryz.ntmps117, List.size_toArray, List.length_cons, List.length_nil, Nat.reduceAdd, Nat.reduceSub, Array.replicate_succ, Array.replicate_zero, List.push_toArray, List.append_toArray, List.nil_append, List.cons_append]
  refine wpIn_wide.2 ?_
  go_wp2_with fail
  have bx := ((Boxed.new w 9 (.string x)).alloc (.cells #[.string key] 9)).alloc (.cells #[.int .i64 (d : Nat)] 3)
  have bk := (Boxed.new (w.alloc (.cells #[.string x] 9)) 9 (.string key)).alloc (.cells #[.int .i64 (d : Nat)] 3)
  have bd := Boxed.new ((w.alloc (.cells #[.string x] 9)).alloc (.cells #[.string key] 9)) 3 (.int .i64 (d : Nat))
  have hB3 : Below w.heap.size w (((w.alloc (.cells #[.string x] 9)).alloc (.cells #[.string key] 9)).alloc (.cells #[.int .i64 (d : Nat)] 3)) := ((Below.refl _ w).alloc (Nat.le_refl _) _).alloc (by simp) _ |>.alloc (by simp; omega) _
  have hs3 : (((w.alloc (.cells #[.string x] 9)).alloc (.cells #[.string key] 9)).alloc (.cells #[.int .i64 (d : Nat)] 3)).heap.size = w.heap.size + 3 := by simp
  simp only [World.size_alloc] at bk bd
  obtain ⟨W3, hW3⟩ : ∃ W3, ((w.alloc (.cells #[.string x] 9)).alloc (.cells #[.string key] 9)).alloc (.cells #[.int .i64 (d : Nat)] 3) = W3 := ⟨_, rfl⟩
  rw [hW3] at bx bk bd hB3 hs3 ⊢
  clear hW3
  generalize hn : w.heap.size = n at *
  have BI := Lib.hid (And.intro bx (And.intro bk bd))
  have HS3 := Lib.hid hs3
  have HN := Lib.hid hn
  clear bx bk bd hs3 hn
  refine (backwardT_any va vn vc _).mono ?_
  rintro e w1 ⟨rfl, rfl⟩
  go_wp2_with fail
  rw [HS3.out]
  obtain ⟨W4, hW4⟩ : ∃ W4, W3.alloc (.cells #[.slice va vn vc] 33) = W4 := ⟨_, rfl⟩
  have hs4 : W4.heap.size = n + 4 := by rw [← hW4]; simp [HS3.out]
  have hB4 : Below n w W4 := by rw [← hW4]; exact hB3.alloc (by rw [HS3.out]; omega) _
  have B4 : Hid (Boxed W4 n 9 (.string x) ∧ Boxed W4 (n + 1) 9 (.string key) ∧ Boxed W4 (n + 1 + 1) 3 (.int .i64 (d : Nat)) ∧ Boxed W4 (n + 3) 33 (.slice va vn vc)) := by
    rw [← hW4]
    exact ⟨BI.out.1.alloc _, BI.out.2.1.alloc _, BI.out.2.2.alloc _, by have := Boxed.new W3 33 (.slice va vn vc); rwa [HS3.out] at this⟩
  rw [hW4]
  clear hW4 hB3 HS3 BI
  have hg4 : w.grownBy W4 none := grownBy_below (by rw [HN.out]; exact hB4)
  have hv4 : StrsAt W4 (.slice va vn vc) L := strs_grown HV.out hg4
  have hl9 : L.length ≤ 1000000000 := by have := HD.out; omega
  refine (wpIn_wide (n := 6)).1 ?_
  refine wpIn_rangeFunc_ownH (F := Fence.wide) rfl (by decide) (gf := 180) (lb := #[.pointer (some ⟨n + 3, 0, none⟩)]) rfl trivial (enters_of Tryz.func180 (by kernel_rfl) rfl)
    (backwardT_stops Fence.wide 5 trivial rfl (by decide) (n + 3) (n + 4) n (.slice va vn vc) L hl9 W4 (by omega) (by omega) (by omega) B4.out.2.2.2.cell hv4 (fun i g o _ e _ => by have := HVB.out g e; omega)) (fun h k => h.then k) ?kb (Below.refl _ _) (fun _ => rfl)
    (fun pre W => ((Boxed W n 9 (.string (pre.foldl (stepCP key d L) x)) ∧ Boxed W (n + 1) 9 (.string key) ∧ Boxed W (n + 1 + 1) 3 (.int .i64 (d : Nat)))) ∧ Below n W4 W)
    (fun c pre W => False)
    ?own ?ownx
    ⟨⟨B4.out.1, B4.out.2.1, B4.out.2.2.1⟩, Below.refl _ _⟩
    (fun x' a' W => a' = { tmps := #[.string x, .string key, .int .i64 (d : Nat), .slice va vn vc, .pointer (some ⟨n, 0, none⟩), .pointer (some ⟨n + 1, 0, none⟩), .pointer (some ⟨n + 1 + 1, 0, none⟩), undef, .string ⟨#[]⟩, .int .i64 (min x' L.length : Nat), .string (entT L x'), .slice va vn vc, .func (.func 180) #[] #[.pointer (some ⟨n + 3, 0, none⟩)], .int .i64 (min x' L.length : Nat), .string (entT L x'), undef, undef, undef, undef, undef, undef, undef, undef, undef, undef, undef, undef, undef], defers := [] })
    (fun x' a' _ X Y row hs hg hr => hs)
    ?assign ?body ?done ?stop
  case kb => exact fun W l o o' hl ho h1 h2 => ⟨rfl, rfl, rfl, by simp, fun k hk hn2 => World.putObj_heap_other (fun e => hn2 (Or.inl (by omega)))⟩
  case own => exact OwnFrom.and (OwnFrom.and (Own.from (boxed_own _ _ _) _) (OwnFrom.and (Own.from (boxed_own _ _ _) _) (Own.from (boxed_own _ _ _) _))) (ownFrom_below (by omega) (by omega))
  case ownx => exact fun c s X Y row hs _ _ => hs
  case assign =>
    rintro l pre x' W K ⟨⟨b1, b2, b3⟩, hB⟩ hK
    unfold encT
    gi_wp2
    exact hK _ _ (KeepsFrom.refl _ _) (Turn.refl _ _) ⟨⟨b1, b2, b3⟩, hB⟩ rfl
  case body =>
    rintro l pre x' a' W hl ⟨r, hr⟩ ⟨⟨b1, b2, b3⟩, hB⟩ rfl hlt
    have ck := b2.cell
    have cd := b3.cell
    have cx := b1.cell
    have fx := b1.frozen
    have hsz := hB.size
    have hml : min x' L.length ≤ L.length := Nat.min_le_right _ _
    have hwW : w.grownBy W none := grownBy_below (by rw [HN.out]; exact hB4.trans hB)
    obtain ⟨q, hq⟩ : ∃ q, min x' L.length = q := ⟨_, rfl⟩
    obtain ⟨E, hE⟩ : ∃ E, entT L x' = E := ⟨_, rfl⟩
    obtain ⟨Y, hY⟩ : ∃ Y, pre.foldl (stepCP key d L) x = Y := ⟨_, rfl⟩
    obtain ⟨Z, hZ⟩ : ∃ Z, (pre ++ [x']).foldl (stepCP key d L) x = Z := ⟨_, rfl⟩
    have hstep : (if bitS key (d + q) = 1 then joinN E Y else joinN Y E) = Z := by
      rw [← hZ, List.foldl_append, hY, ← hq, ← hE]
      rfl
    have hyf : Y.size ≤ 1000 := by rw [← hY]; exact fold_few key d L HS.out pre x HX.out
    have hef : E.size ≤ 1000 := by rw [← hE]; exact entT_few L x' HS.out
    rw [hq, hE]
    rw [hq] at hml
    rw [hY] at b1 cx
    have hbit := Lib.hid (fun (w0 : World) => bit_any key (by have := HK.out; unfold maxLen; omega) (d + q) (by have := HD.out; omega) w0)
    rw [Int.natCast_add] at hbit
    have hj1 := Lib.hid (fun (w0 : World) (g : w.grownBy w0 none) => join_any E Y (by omega) (by omega) w0 (HR.out.grown g))
    have hj2 := Lib.hid (fun (w0 : World) (g : w.grownBy w0 none) => join_any Y E (by omega) (by omega) w0 (HR.out.grown g))
    have HST := Lib.hid hstep
    have HZ := Lib.hid hZ
    have HD2 : Hid (d + q ≤ 128) := Lib.hid (by have := HD.out; omega)
    have hw1 : IntKind.i64.wrap ((d : Int) + (q : Int)) = ((d + q : Nat) : Int) := by rw [IntWalk.i64_in _ (by have := HD2.out; omega)]; rfl
    clear hY hZ hE hq hstep hyf hef hml
    have hpost : ∀ w3 : World, W.grownBy w3 none → KeepsFrom W4.heap.size W (w3.setCell ⟨n, 0, none⟩ (.string Z)) ∧ Turn (butOne (n + 4) n) W (w3.setCell ⟨n, 0, none⟩ (.string Z)) ∧ ((Boxed (w3.setCell ⟨n, 0, none⟩ (.string Z)) n 9 (.string ((pre ++ [x']).foldl (stepCP key d L) x)) ∧ Boxed (w3.setCell ⟨n, 0, none⟩ (.string Z)) (n + 1) 9 (.string key) ∧ Boxed (w3.setCell ⟨n, 0, none⟩ (.string Z)) (n + 1 + 1) 3 (.int .i64 (d : Nat))) ∧ Below n W4 (w3.setCell ⟨n, 0, none⟩ (.string Z))) := by
      intro w3 g3
      refine ⟨(KeepsFrom.of_grownBy g3 (fun j e => by cases e)).trans ((KeepsOthers.setCell _ _ _).from _), (Turn.of_grown g3).setCell (fun _ => Or.inr rfl) _ _, ⟨?_, (b2.kept g3 (by simp)).other (by omega) _, (b3.kept g3 (by simp)).other (by omega) _⟩, ?_⟩
      · rw [HZ.out]; exact (b1.kept g3 (by simp)).set _
      · exact (hB.grown g3 (by omega) (fun k e => by cases e)).setCell (p := ⟨n, 0, none⟩) (by simp) _
    have hbl : bitS key (d + q) ≤ 1 := bitS_le key (d + q)
    gi_wp2_with fail
    refine ⟨trivial, ((callsIn_wide (n := 3)).2 (hbit.out W)).inRound l |>.mono ?_⟩
    rintro e w2 ⟨rfl, g2⟩
    have ck2 : w2.cell? ⟨n, 0, none⟩ = some (.string Y) := g2.cell cx (by simp)
    have hf2 : w2.frozen? ⟨n, 0, none⟩ = false := (b1.kept g2 (by simp)).frozen
    have HG2 := Lib.hid g2
    clear g2
    by_cases h1 : bitS key (d + q) = 1
    · rw [if_pos h1] at HST
      rw [h1]
      clear hbl h1
      gi_wp2_with fail
      refine ⟨trivial, ((callsIn_wide (n := 3)).2 (hj1.out w2 (grownBy_trans hwW HG2.out))).inRound l |>.mono ?_⟩
      rintro e w3 ⟨rfl, g3⟩
      have g23 := grownBy_trans HG2.out g3
      have ck3 : w3.cell? ⟨n, 0, none⟩ = some (.string Y) := g3.cell ck2 (by simp)
      have hf3 : w3.frozen? ⟨n, 0, none⟩ = false := (b1.kept g23 (by simp)).frozen
      gi_wp2_with fail
      rw [HST.out]
      exact hpost w3 g23
    · have h0 : bitS key (d + q) = 0 := by omega
      rw [if_neg h1] at HST
      rw [h0]
      clear hbl h1 h0
      gi_wp2_with fail
      refine ⟨trivial, ((callsIn_wide (n := 3)).2 (hj2.out w2 (grownBy_trans hwW HG2.out))).inRound l |>.mono ?_⟩
      rintro e w3 ⟨rfl, g3⟩
      have g23 := grownBy_trans HG2.out g3
      have ck3 : w3.cell? ⟨n, 0, none⟩ = some (.string Y) := g3.cell ck2 (by simp)
      have hf3 : w3.frozen? ⟨n, 0, none⟩ = false := (b1.kept g23 (by simp)).frozen
      gi_wp2_with fail
      rw [HST.out]
      exact hpost w3 g23
  case done =>
    rintro D' xs W hD rfl ⟨⟨b1, b2, b3⟩, hB⟩ hK
    have cx := b1.cell
    rw [fold_climbed key d L x _ (Nat.le_refl _), climbed_all] at cx
    go_wp2_with fail
    refine ⟨by simp, .inl ⟨_, _, rfl, run_takeDeferred hK, ?_⟩⟩
    refine ⟨_, results_climb rfl, rfl, ?_⟩
    rw [HN.out]
    exact read_putP (hB4.trans hB) (by omega)
  case stop =>
    rintro D' c pre W _ _ h
    exact h.elim
end Go.Proofs.YtbhoeiopckmfhaaGreatDoor

namespace Go.Proofs.YtbhoeiopckmfhaaGreatDoor
open Go.RowKit Go.Maps
attribute [local irreducible] shaL

theorem str_same (a b : ByteArray) : (a.toList == b.toList) = decide (a = b) := by
  rw [ByteArray.toList_eq, ByteArray.toList_eq, Bool.eq_iff_iff, beq_iff_eq, decide_eq_true_iff]
  exact ⟨fun h => ByteArray.ext (Array.toList_inj.1 h), fun h => by rw [h]⟩
def tellsB (L : List ByteArray) (t : Bool) (pk pv node key : ByteArray) (d : Nat) : Bool := goodB L t pk pv key d && decide (climbN key d L (if t then leafS pk pv else emptyS) = node)
set_option maxRecDepth 100000 in
set_option maxHeartbeats 3200000 in
theorem tells_fine (v : Value) (L : List ByteArray) (t : Bool) (pk pv node key : ByteArray) (d : Nat) (w : World) (hr : ShaReady w) (hv : StrsAt w v L) (hs : ∀ s ∈ L, s.size ≤ maxLen) (hk : key.size = 16) (hd : d + L.length ≤ 128) (hpk : pk.size ≤ 1000) (hpv : pv.size ≤ 1000)
    (hC : ∀ (x : ByteArray) (w' : World), x.size ≤ 17 → w.grownBy w' none → Calls Tryz.prog 117 #[.string x, .string key, .int .i64 d, v] w' fun e w'' => e = .returned (.string (climbN key d L x)) ∧ w'.grownBy w'' none) :
    Calls Tryz.prog 79 #[.agg #[v, .bool t, .string pk, .string pv], .string node, .string key, .int .i64 d] w fun e w' => e = .returned (.bool (tellsB L t pk pv node key d)) ∧ w.grownBy w' none := by
  have HGOOD := Lib.hid (fun (w' : World) (q : w.grownBy w' none) => good_fine v L t pk pv key d w' (strs_grown hv q) hs hk hd (by unfold maxLen; omega))
  have HNODE := Lib.hid (fun (w' : World) (q : w.grownBy w' none) => pnode_fine v L t pk pv key d w' (hr.grown q) (strs_grown hv q) hs hk hd hpk hpv (fun x w'' hx q2 => hC x w'' hx (grownBy_trans q q2)))
  have HT := Lib.hid (show tellsB L t pk pv node key d = (goodB L t pk pv key d && decide (climbN key d L (if t then leafS pk pv else emptyS) = node)) from rfl)
  generalize tellsB L t pk pv node key d = TB at HT ⊢
  generalize climbN key d L (if t then leafS pk pv else emptyS) = R at HNODE HT
  generalize goodB L t pk pv key d = G at HGOOD HNODE HT
  have hg1 : w.grownBy (w.alloc (.cells #[v, .bool t, .string pk, .string pv] 92)) none := World.grownBy_alloc _ _ _
  have hb1 := heap_alloc_at w (.cells #[v, .bool t, .string pk, .string pv] 92) _ rfl
  have es := str_same R node
  clear hr hv hs hk hd hpk hpv hC
  go_enter Tryz.func79, Tryz.ntmps79
  go_wp2_with fail
  refine (HGOOD.out _ hg1).mono ?_
  rintro e w2 ⟨rfl, g2⟩
  have hb2 := g2.heap hb1 (by simp)
  have hg2 := grownBy_trans hg1 g2
  obtain ⟨XB, hXB⟩ : ∃ XB, w.heap.size = XB := ⟨_, rfl⟩
  rw [hXB] at hb2 ⊢
  have x0 := cell_of hb2 0
  have x1 := cell_of hb2 1
  have x2 := cell_of hb2 2
  have x3 := cell_of hb2 3
  simp at x0 x1 x2 x3
  have HG2 := Lib.hid hg2
  clear hg1 hb1 hXB g2 hg2 hb2 HGOOD
  cases G
  · have HE : Hid (TB = false) := Lib.hid (by rw [HT.out]; rfl)
    clear es
    go_wp2_with fail
    go_ret
    exact ⟨by rw [HE.out]; rfl, HG2.out⟩
  · have HE : Hid (TB = (R.toList == node.toList)) := Lib.hid (by rw [HT.out, es]; simp)
    clear es
    go_wp2_with fail
    refine (HNODE.out _ HG2.out).mono ?_
    rintro e w3 ⟨rfl, g3⟩
    have HG3 := Lib.hid (grownBy_trans HG2.out g3)
    clear g3
    go_wp2_with fail
    go_ret
    exact ⟨by rw [HE.out]; rfl, HG3.out⟩
set_option maxRecDepth 100000 in
set_option maxHeartbeats 3200000 in
theorem has_fine (v : Value) (L : List ByteArray) (t : Bool) (pk pv node key value : ByteArray) (d : Nat) (w : World) (hr : ShaReady w) (hv : StrsAt w v L) (hs : ∀ s ∈ L, s.size ≤ maxLen) (hk : key.size = 16) (hd : d + L.length ≤ 128) (hpk : pk.size ≤ 1000) (hpv : pv.size ≤ 1000)
    (hC : ∀ (x : ByteArray) (w' : World), x.size ≤ 17 → w.grownBy w' none → Calls Tryz.prog 117 #[.string x, .string key, .int .i64 d, v] w' fun e w'' => e = .returned (.string (climbN key d L x)) ∧ w'.grownBy w'' none) :
    Calls Tryz.prog 37 #[.agg #[v, .bool t, .string pk, .string pv], .string node, .string key, .string value, .int .i64 d] w fun e w' => e = .returned (.bool (tellsB L t pk pv node key d && t && decide (pk = key) && decide (pv = value))) ∧ w.grownBy w' none := by
  have HTELL := Lib.hid (fun (w' : World) (q : w.grownBy w' none) => tells_fine v L t pk pv node key d w' (hr.grown q) (strs_grown hv q) hs hk hd hpk hpv (fun x w'' hx q2 => hC x w'' hx (grownBy_trans q q2)))
  generalize tellsB L t pk pv node key d = TB at HTELL ⊢
  have hg1 : w.grownBy (w.alloc (.cells #[v, .bool t, .string pk, .string pv] 92)) none := World.grownBy_alloc _ _ _
  have hb1 := heap_alloc_at w (.cells #[v, .bool t, .string pk, .string pv] 92) _ rfl
  have ek := str_same pk key
  have ev := str_same pv value
  rw [← ek, ← ev]
  clear ek ev
  obtain ⟨q1, hq1⟩ : ∃ q, (pk.toList == key.toList) = q := ⟨_, rfl⟩
  obtain ⟨q2, hq2⟩ : ∃ q, (pv.toList == value.toList) = q := ⟨_, rfl⟩
  rw [hq1, hq2]
  clear hr hv hs hk hd hpk hpv hC
  go_enter Tryz.func37, Tryz.ntmps37
  go_wp2_with fail
  refine (HTELL.out _ hg1).mono ?_
  rintro e w2 ⟨rfl, g2⟩
  have hb2 := g2.heap hb1 (by simp)
  have hg2 := grownBy_trans hg1 g2
  obtain ⟨XB, hXB⟩ : ∃ XB, w.heap.size = XB := ⟨_, rfl⟩
  rw [hXB] at hb2 ⊢
  have x0 := cell_of hb2 0
  have x1 := cell_of hb2 1
  have x2 := cell_of hb2 2
  have x3 := cell_of hb2 3
  simp at x0 x1 x2 x3
  have HG2 := Lib.hid hg2
  clear hg1 hb1 hXB g2 hg2 hb2 HTELL
  cases TB
  · cases t
    · go_wp2_with fail
      go_ret
      exact ⟨by rfl, HG2.out⟩
    · go_wp2_with fail
      go_ret
      exact ⟨by rfl, HG2.out⟩
  · cases t
    · go_wp2_with fail
      go_ret
      exact ⟨by rfl, HG2.out⟩
    · cases q1
      · go_wp2_with fail
        go_ret
        exact ⟨by rfl, HG2.out⟩
      · cases q2
        · go_wp2_with fail
          go_ret
          exact ⟨by rfl, HG2.out⟩
        · go_wp2_with fail
          go_ret
          exact ⟨by rfl, HG2.out⟩
set_option maxRecDepth 100000 in
set_option maxHeartbeats 3200000 in
theorem lacks_fine (v : Value) (L : List ByteArray) (t : Bool) (pk pv node key : ByteArray) (d : Nat) (w : World) (hr : ShaReady w) (hv : StrsAt w v L) (hs : ∀ s ∈ L, s.size ≤ maxLen) (hk : key.size = 16) (hd : d + L.length ≤ 128) (hpk : pk.size ≤ 1000) (hpv : pv.size ≤ 1000)
    (hC : ∀ (x : ByteArray) (w' : World), x.size ≤ 17 → w.grownBy w' none → Calls Tryz.prog 117 #[.string x, .string key, .int .i64 d, v] w' fun e w'' => e = .returned (.string (climbN key d L x)) ∧ w'.grownBy w'' none) :
    Calls Tryz.prog 38 #[.agg #[v, .bool t, .string pk, .string pv], .string node, .string key, .int .i64 d] w fun e w' => e = .returned (.bool (tellsB L t pk pv node key d && (!t || !decide (pk = key)))) ∧ w.grownBy w' none := by
  have HTELL := Lib.hid (fun (w' : World) (q : w.grownBy w' none) => tells_fine v L t pk pv node key d w' (hr.grown q) (strs_grown hv q) hs hk hd hpk hpv (fun x w'' hx q2 => hC x w'' hx (grownBy_trans q q2)))
  generalize tellsB L t pk pv node key d = TB at HTELL ⊢
  have hg1 : w.grownBy (w.alloc (.cells #[v, .bool t, .string pk, .string pv] 92)) none := World.grownBy_alloc _ _ _
  have hb1 := heap_alloc_at w (.cells #[v, .bool t, .string pk, .string pv] 92) _ rfl
  have ek := str_same pk key
  rw [← ek]
  clear ek
  obtain ⟨q1, hq1⟩ : ∃ q, (pk.toList == key.toList) = q := ⟨_, rfl⟩
  rw [hq1]
  clear hr hv hs hk hd hpk hpv hC
  go_enter Tryz.func38, Tryz.ntmps38
  go_wp2_with fail
  refine (HTELL.out _ hg1).mono ?_
  rintro e w2 ⟨rfl, g2⟩
  have hb2 := g2.heap hb1 (by simp)
  have hg2 := grownBy_trans hg1 g2
  obtain ⟨XB, hXB⟩ : ∃ XB, w.heap.size = XB := ⟨_, rfl⟩
  rw [hXB] at hb2 ⊢
  have x0 := cell_of hb2 0
  have x1 := cell_of hb2 1
  have x2 := cell_of hb2 2
  have x3 := cell_of hb2 3
  simp at x0 x1 x2 x3
  have HG2 := Lib.hid hg2
  clear hg1 hb1 hXB g2 hg2 hb2 HTELL
  cases TB
  · cases t
    · go_wp2_with fail
      go_ret
      exact ⟨by rfl, HG2.out⟩
    · go_wp2_with fail
      go_ret
      exact ⟨by rfl, HG2.out⟩
  · cases t
    · go_wp2_with fail
      go_ret
      exact ⟨by rfl, HG2.out⟩
    · cases q1
      · go_wp2_with fail
        go_ret
        exact ⟨by rfl, HG2.out⟩
      · go_wp2_with fail
        go_ret
        exact ⟨by rfl, HG2.out⟩
end Go.Proofs.YtbhoeiopckmfhaaGreatDoor

namespace Go.Proofs.YtbhoeiopckmfhaaGreatDoor
open Go.RowKit Go.Maps
attribute [local irreducible] shaL

set_option maxRecDepth 100000 in
set_option maxHeartbeats 1600000 in
theorem prove_out (t : Value) (key : ByteArray) (hk : key.size ≤ maxLen) (z : Int) (w : World) (h : key.size ≠ 16 ∨ z < 0 ∨ z > 128) :
    Calls Tryz.prog 36 #[t, .string key, .int .i64 z] w fun e w' => e = .returned (.tuple #[.agg #[.slice none 0 0, .bool false, .string ⟨#[]⟩, .string ⟨#[]⟩], .int .i64 10]) ∧ w.grownBy w' none := by
  have hr := heap_alloc_at w (.cells #[.slice none 0 0, .bool false, .string ⟨#[]⟩, .string ⟨#[]⟩] 92) _ rfl
  have hg : w.grownBy (w.alloc (.cells #[.slice none 0 0, .bool false, .string ⟨#[]⟩, .string ⟨#[]⟩] 92)) none := World.grownBy_alloc _ _ _
  obtain ⟨W, hW⟩ : ∃ W, w.alloc (.cells #[.slice none 0 0, .bool false, .string ⟨#[]⟩, .string ⟨#[]⟩] 92) = W := ⟨_, rfl⟩
  rw [hW] at hr hg
  have s0 : W.cell? ⟨w.heap.size, 0, none⟩ = some (.slice none 0 0) := by rw [cell_of hr]; rfl
  have s1 : W.cell? ⟨w.heap.size, 1, none⟩ = some (.bool false) := by rw [cell_of hr]; rfl
  have s2 : W.cell? ⟨w.heap.size, 2, none⟩ = some (.string ⟨#[]⟩) := by rw [cell_of hr]; rfl
  have s3 : W.cell? ⟨w.heap.size, 3, none⟩ = some (.string ⟨#[]⟩) := by rw [cell_of hr]; rfl
  have f0 : ∀ j, W.frozen? ⟨w.heap.size, j, none⟩ = false := fun j => frozen_of_row _ _ _ _ _ hr
  have HW := Lib.hid hW
  have HRG := Lib.hid (And.intro hr hg)
  clear hr hg hW
  have fin : Hid ((((((W.setCell ⟨w.heap.size, 0, none⟩ (.slice none 0 0)).setCell ⟨w.heap.size, 1, none⟩ (.bool false)).setCell ⟨w.heap.size, 2, none⟩ (.string ⟨#[]⟩)).setCell ⟨w.heap.size, 3, none⟩ (.string ⟨#[]⟩)).heap[w.heap.size]? = some (.cells emptyP 92 (0, 0))) ∧ w.grownBy ((((W.setCell ⟨w.heap.size, 0, none⟩ (.slice none 0 0)).setCell ⟨w.heap.size, 1, none⟩ (.bool false)).setCell ⟨w.heap.size, 2, none⟩ (.string ⟨#[]⟩)).setCell ⟨w.heap.size, 3, none⟩ (.string ⟨#[]⟩)) none) :=
    ⟨heap4 HRG.out.1 _ _ _ _, grown_row HRG.out.2 (grown4 W w.heap.size _ _ _ _) (fun g e => by have e2 : w.heap.size = g := Option.some.inj e; omega)⟩
  by_cases hk16 : key.size = 16
  · have e0 : ((key.size : Int) != 16) = false := by rw [hk16]; rfl
    by_cases hz : z < 0
    · have hz3 : ¬ z > 128 := by omega
      clear h hk16
      go_enter Tryz.func36, Tryz.ntmps36
      go_wp2_with (rw [HW.out])
      all_goals exact bodyPost_ret (results_prove (n := w.heap.size) rfl rfl fin.out.1) rfl ⟨rfl, fin.out.2⟩
    · have hz2 : z > 128 := by omega
      clear h hk16
      go_enter Tryz.func36, Tryz.ntmps36
      go_wp2_with (rw [HW.out])
      all_goals exact bodyPost_ret (results_prove (n := w.heap.size) rfl rfl fin.out.1) rfl ⟨rfl, fin.out.2⟩
  · have e0 : ((key.size : Int) != 16) = true := by simp; omega
    clear h hk16
    go_enter Tryz.func36, Tryz.ntmps36
    go_wp2_with (rw [HW.out])
    all_goals exact bodyPost_ret (results_prove (n := w.heap.size) rfl rfl fin.out.1) rfl ⟨rfl, fin.out.2⟩
theorem climb_fine (v : Value) (L : List ByteArray) (key : ByteArray) (d : Nat) (w : World) (hr : ShaReady w) (hv : StrsAt w v L) (hs : ∀ s ∈ L, s.size ≤ 1000) (hk : key.size = 16) (hd : d + L.length ≤ 128) (hvb : ∀ g, v.ownBlock = some g → g < w.heap.size) :
    ∀ (x : ByteArray) (w' : World), x.size ≤ 17 → w.grownBy w' none → Calls Tryz.prog 117 #[.string x, .string key, .int .i64 d, v] w' fun e w'' => e = .returned (.string (climbN key d L x)) ∧ w'.grownBy w'' none :=
  fun x w' hx g => (pclimb_any v L x key d w' (hr.grown g) (strs_grown hv g) hs (by omega) hk hd (fun b e => Nat.lt_of_lt_of_le (hvb b e) g.size)).mono fun _ _ q => ⟨q.1, grownBy_below q.2⟩
end Go.Proofs.YtbhoeiopckmfhaaGreatDoor

namespace Go.Proofs.YtbhoeiopckmfhaaGreatDoor
open Go.RowKit Go.Maps
attribute [local irreducible] shaL

abbrev PutS := UInt8 × UInt8 × ByteArray
/-- a list of puts, as it came in -/
def PutsAt (w : World) (v : Value) (L : List PutS) : Prop :=
  ∃ a cap, v = .slice a L.length cap ∧ ∀ i (h : i < L.length), ∃ g o, a = some ⟨g, o, none⟩ ∧ w.cell? ⟨g, o + i * 3, none⟩ = some (.int .u8 (UInt8.toNat L[i].1)) ∧ w.cell? ⟨g, o + i * 3 + 1, none⟩ = some (.int .u8 (UInt8.toNat L[i].2.1)) ∧ w.cell? ⟨g, o + i * 3 + 2, none⟩ = some (.string L[i].2.2)
def cut20 (s : ByteArray) : ByteArray := s.extract 0 (min s.size 20)
theorem cut20_size (s : ByteArray) : (cut20 s).size ≤ 20 := by
  unfold cut20
  rw [ByteArray.size_extract]
  omega
theorem cut20_eq (s : ByteArray) : s.extract 0 (min (s.size : Int) 20).toNat = cut20 s := by
  unfold cut20
  congr 1
  omega
/-- the pairs that they make -/
def bothM (L : List PutS) : List PairS := L.foldl (fun M p => setM M (keyS14 p.1 p.2.1, cut20 p.2.2)) []
theorem bothM_snoc (L : List PutS) (p : PutS) : bothM (L ++ [p]) = setM (bothM L) (keyS14 p.1 p.2.1, cut20 p.2.2) := by
  unfold bothM
  rw [List.foldl_append]
  rfl
theorem setM_len (M : List PairS) (x : PairS) : (setM M x).length ≤ M.length + 1 := by
  unfold setM
  rw [List.length_append, List.length_singleton]
  have := List.length_filter_le (fun p : PairS => !decide (p.1 = x.1)) M
  omega
theorem setM_all {M : List PairS} {x : PairS} {P : PairS → Prop} (h : ∀ y ∈ M, P y) (hx : P x) : ∀ y ∈ setM M x, P y := by
  intro y hy
  rcases List.mem_append.1 hy with hy | hy
  · exact h y (List.mem_filter.1 hy).1
  · rw [List.mem_singleton.1 hy]; exact hx
theorem bothM_all : ∀ (L : List PutS) (M : List PairS), (∀ x ∈ M, x.1.size = 16 ∧ x.2.size ≤ 20) → (∀ x ∈ L.foldl (fun M p => setM M (keyS14 p.1 p.2.1, cut20 p.2.2)) M, x.1.size = 16 ∧ x.2.size ≤ 20) ∧ (L.foldl (fun M p => setM M (keyS14 p.1 p.2.1, cut20 p.2.2)) M).length ≤ M.length + L.length
  | [], M, h => ⟨h, by simp⟩
  | p :: r, M, h => by
    have h1 := bothM_all r (setM M (keyS14 p.1 p.2.1, cut20 p.2.2)) (setM_all h ⟨keyS14_size _ _, cut20_size _⟩)
    refine ⟨h1.1, Nat.le_trans h1.2 ?_⟩
    have := setM_len M (keyS14 p.1 p.2.1, cut20 p.2.2)
    simp only [List.length_cons]
    omega
theorem bothM_ok (L : List PutS) (hL : L.length ≤ 12) : (∀ x ∈ bothM L, x.1.size = 16 ∧ x.2.size ≤ 20) ∧ (bothM L).length ≤ 12 := by
  have h := bothM_all L [] (fun x hx => by cases hx)
  refine ⟨h.1, ?_⟩
  have := h.2
  simp only [List.length_nil] at this
  unfold bothM
  omega
theorem plain_of {M : List PairS} (h : ∀ x ∈ M, x.1.size = 16 ∧ x.2.size ≤ 20) (hl : M.length ≤ 12) : Plain M := ⟨fun x hx => (h x hx).1, fun x hx => by have := (h x hx).2; omega, by omega⟩
def ownL (v : Value) : List Nat := v.ownBlock.toList
theorem ownL_mem {v : Value} {x : Nat} : x ∈ ownL v ↔ v.ownBlock = some x := by unfold ownL; simp
theorem puts_ck {w w' : World} {g : Nat} {i j : Nat} {x y : Value} (k : w.grownBy w' none) (h : w.cell? ⟨g, i, none⟩ = some x ∧ w.cell? ⟨g, j, none⟩ = some y) : w'.cell? ⟨g, i, none⟩ = some x ∧ w'.cell? ⟨g, j, none⟩ = some y := ⟨k.cell h.1 (by simp), k.cell h.2 (by simp)⟩
theorem own_keep2' {w w' : World} {B n s : Nat} {t : TypeId} {v : Value} {xs : List Value} (h : w.ownsRow B t s v n xs) (k : w.grownBy w' none) : w'.ownsRow B t s v n xs := by
  refine ⟨h.1, ?_⟩
  rcases h.2 with h' | ⟨g, cap, cur, rfl, hB, hg, r⟩
  · exact .inl h'
  · exact .inr ⟨g, cap, cur, rfl, hB, (k.block g (Array.getElem?_eq_some_iff.1 hg).1 (by simp)).trans hg, r⟩
end Go.Proofs.YtbhoeiopckmfhaaGreatDoor
