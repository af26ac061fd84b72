/- The walk of the law EntryHistories. -/
import Derived.Test.YtgaenpbdfelhhaaDoorEntryHistoriesB4
namespace Go.Proofs.YtgaenpbdfelhhaaDoor
open Go.RowKit
attribute [local irreducible] shaL

theorem HIn.gr' {LB XB : Nat} {w : World} {u : Value} {L : List EntS} {x : EntS} {a : World} (h : HIn LB XB w u L x a) : w.grownBy a none := h.gr
theorem HIn.own' {LB XB : Nat} {w : World} {u : Value} {L : List EntS} {x : EntS} {a : World} {n : Nat} (h : HIn LB XB w u L x a) (hn : L.length = n) : a.ownsRow LB 52 5 u n (entsV L) := by subst hn; exact h.own
theorem grownBy_any_new {w a c : World} {g : Nat} (h : w.grownBy a none) (k : a.grownBy c (some g)) (hg : w.heap.size ≤ g) : w.grownBy c none := grown_row h k (fun x e => by cases e; exact hg)
theorem step_append_own {P : Program} (w : World) {ops : Array Oper} {o : Oper} {a : Act} {K : Act → World → Prop} {Q : Exit → Act → World → Prop} {E : Prop} (hgd : o.guard = none) (s x : Operand) (t : TypeId)
    (ho : o.op = .call { callee := .builtin .append, args := #[s, x], argTypes := #[t, t] })
    (base : Nat) (e : TypeId) (i : TypeInfo) (z : Value) (size bytes : Nat) (ht : P.underlying t = some (.slice e)) (hi : P.info? e = some i) (hz : i.zero = some z)
    (hsize : i.size = size) (hby : i.bytes = bytes) (hzs : z.cells.size = size) (hsz : 0 < size)
    (v : Value) (n : Nat) (xs : List Value) (hs : a.eval s = v) (hown : w.ownsRow base e size v n xs)
    (ad : Addr) (m c : Nat) (news : List Value) (hx : a.eval x = .slice (some ad) m c) (hl : news.length = m * size) (hnews : ∀ j u, news[j]? = some u → w.cell? (ad.add j) = some u) (h1 : ∀ u ∈ news, u.oneCell' = true)
    (h63 : n + m ≤ maxLen) (hbytes : (n + m) * bytes ≤ 140737488355328) (hbase : base ≤ w.heap.size)
    (h : ∀ v' w', w'.ownsRow base e size v' (n + m) (xs ++ news) → w.grownBy w' v.ownBlock → K (a.put o.dst v') w') :
    if Region.wanted o (yielded ops a.tmps) = true then Oper.wp P o a w K Q else E := by
  have hw : Region.wanted o (yielded ops a.tmps) = true := by simp [Region.wanted, hgd]
  rw [if_pos hw]
  exact wp_append_own w s x t ho base e i z size bytes ht hi hz hsize hby hzs hsz v n xs hs hown ad m c news hx hl hnews h1 h63 hbytes hbase fun v' w' h2 h3 _ => h v' w' h2 h3
theorem wpList_append_own_g {P : Program} (w : World) {ops : Array Oper} {rest : List Oper} {o : Oper} {a : Act} {Q : Exit → Act → World → Prop} (hw : Region.wanted o (yielded ops a.tmps) = true) (s x : Operand) (t : TypeId)
    (ho : o.op = .call { callee := .builtin .append, args := #[s, x], argTypes := #[t, t] })
    (base : Nat) (e : TypeId) (i : TypeInfo) (z : Value) (size bytes : Nat) (ht : P.underlying t = some (.slice e)) (hi : P.info? e = some i) (hz : i.zero = some z)
    (hsize : i.size = size) (hby : i.bytes = bytes) (hzs : z.cells.size = size) (hsz : 0 < size)
    (v : Value) (n : Nat) (xs : List Value) (hs : a.eval s = v) (hown : w.ownsRow base e size v n xs)
    (ad : Addr) (m c : Nat) (news : List Value) (hx : a.eval x = .slice (some ad) m c) (hl : news.length = m * size) (hnews : ∀ j u, news[j]? = some u → w.cell? (ad.add j) = some u) (h1 : ∀ u ∈ news, u.oneCell' = true)
    (h63 : n + m ≤ maxLen) (hbytes : (n + m) * bytes ≤ 140737488355328) (hbase : base ≤ w.heap.size)
    (h : ∀ v' w', w'.ownsRow base e size v' (n + m) (xs ++ news) → w.grownBy w' v.ownBlock → wpList P ops Q rest (a.put o.dst v') w') : wpList P ops Q (o :: rest) a w :=
  wpList_step fun K hK => by
    rw [if_pos hw]
    exact wp_append_own w s x t ho base e i z size bytes ht hi hz hsize hby hzs hsz v n xs hs hown ad m c news hx hl hnews h1 h63 hbytes hbase fun v' w' h2 h3 _ => hK _ _ (h v' w' h2 h3)
theorem entsV_take (L : List EntS) (k : Nat) : entsV (L.take k) = (entsV L).take (k * 5) := by
  induction L generalizing k with
  | nil => simp [entsV]
  | cons x r ih =>
    cases k with
    | zero => simp [entsV]
    | succ k =>
      have e : entsV (x :: r) = x.cells ++ entsV r := rfl
      have hl : x.cells.length = 5 := rfl
      have e5 : x.cells.take ((k + 1) * 5) = x.cells := List.take_of_length_le (by omega)
      rw [List.take_succ_cons, e, List.take_append, hl, show (k + 1) * 5 - 5 = k * 5 by omega, ← ih k, e5]
      rfl
theorem entsV_drop (L : List EntS) (k : Nat) : entsV (L.drop k) = (entsV L).drop (k * 5) := by
  induction L generalizing k with
  | nil => simp [entsV]
  | cons x r ih =>
    cases k with
    | zero => simp [entsV]
    | succ k =>
      have e : entsV (x :: r) = x.cells ++ entsV r := rfl
      have hl : x.cells.length = 5 := rfl
      have e5 : x.cells.drop ((k + 1) * 5) = [] := List.drop_of_length_le (by omega)
      rw [List.drop_succ_cons, e, List.drop_append, hl, show (k + 1) * 5 - 5 = k * 5 by omega, ← ih k, e5, List.nil_append]
theorem own_drew {w : World} {B n s : Nat} {t : TypeId} {v : Value} {xs : List Value} (h : w.ownsRow B t s v n xs) : w.drew.ownsRow B t s v n xs := h
theorem news_at {w : World} {B g n cap : Nat} {xs : List Value} (h : w.ownsRow B 52 5 (.slice (some ⟨g, 0, none⟩) n cap) n xs) (o : Nat) (ys : List Value) (hy : ∀ j u, ys[j]? = some u → xs[o + j]? = some u) : ∀ j u, ys[j]? = some u → w.cell? ((⟨g, o, none⟩ : Addr).add j) = some u := by
  intro j u hu
  have hadd : (⟨g, o, none⟩ : Addr).add j = ⟨g, o + j, none⟩ := by unfold Addr.add; split <;> simp_all
  have hx := hy j u hu
  have hj := (List.getElem?_eq_some_iff.1 hx).1
  rw [hadd, h.cellAt (o + j) (by rw [← h.1]; exact hj), hx]
theorem own_empty (w : World) (base : Nat) (hb : base ≤ w.heap.size) : (w.alloc (.cells #[] 52)).ownsRow base 52 5 (.slice (some ⟨w.heap.size, 0, none⟩) 0 0) 0 [] :=
  ⟨rfl, .inr ⟨w.heap.size, 0, #[], rfl, hb, heap_alloc_at w _ _ rfl, Nat.le_refl _, Nat.zero_le _, rfl, rfl⟩⟩
theorem own_some {w : World} {B n : Nat} {v : Value} {xs : List Value} (h : w.ownsRow B 52 5 v n xs) (hn : 0 < n) : ∃ g cap, v = .slice (some ⟨g, 0, none⟩) n cap := by
  rcases h.2 with ⟨_, h0⟩ | ⟨g, cap, cur, rfl, _⟩
  · omega
  · exact ⟨g, cap, rfl⟩
theorem own_news {w : World} {B g n cap : Nat} {xs : List Value} (h : w.ownsRow B 52 5 (.slice (some ⟨g, 0, none⟩) n cap) n xs) : ∀ j u, xs[j]? = some u → w.cell? ((⟨g, 0, none⟩ : Addr).add j) = some u := by
  intro j u hu
  have hadd : (⟨g, 0, none⟩ : Addr).add j = ⟨g, j, none⟩ := by unfold Addr.add; split <;> simp_all
  have hj := (List.getElem?_eq_some_iff.1 hu).1
  rw [hadd, h.cellAt j (by rw [← h.1]; exact hj), hu]
theorem hist_call (L : List EntS) (hs : ∀ x ∈ L, x.small) (hn : L.length ≤ 1000) (n : Nat) (hl : L.length = n) (v : Value) (w' : World) (B : Nat) (ho : w'.ownsRow B 52 5 v n (entsV L)) (hr : ShaReady w') :
    Calls Tryd.prog 30 #[v] w' fun e w'' => e = .returned (.int .i64 (histE L)) ∧ w'.grownBy w'' none := by
  subst hl
  exact ehistory_any v L hs (by omega) w' hr (ents_own ho)
theorem set_small {L : List EntS} (h : ∀ x ∈ L, x.small) (k : Nat) (y : EntS) (hy : y.small) : ∀ x ∈ L.set k y, x.small := by
  intro x hx
  rcases List.mem_or_eq_of_mem_set hx with h1 | rfl
  · exact h x h1
  · exact hy
theorem HIn.base {LB XB : Nat} {w : World} {u : Value} {L : List EntS} {x : EntS} {a : World} (h : HIn LB XB w u L x a) : LB ≤ a.heap.size := by have := h.lt; have := h.lx; omega
theorem HIn.push' {LB XB : Nat} {w : World} {u : Value} {L : List EntS} {x : EntS} {a c : World} {n g cap : Nat} (h : HIn LB XB w u L x a) (hn : L.length = n) (y : EntS) (k : a.grownBy c u.ownBlock)
    (ho : c.ownsRow LB 52 5 (.slice (some ⟨g, 0, none⟩) (n + 1) cap) (n + 1) (entsV L ++ y.cells)) (hg : u.ownBlock = some g ∨ g = a.heap.size) : HIn LB XB w (.slice (some ⟨g, 0, none⟩) (n + 1) cap) (L ++ [y]) x c := by
  subst hn
  exact h.push y k ho hg
theorem slice_own5 {w : World} {B n : Nat} {t : TypeId} {v : Value} {xs : List Value} (h : w.ownsRow B t 5 v n xs) : ∃ a cap, v = .slice a n cap := by
  rcases h.2 with ⟨rfl, rfl⟩ | ⟨g, cap, cur, rfl, _⟩
  · exact ⟨none, 0, rfl⟩
  · exact ⟨_, cap, rfl⟩
theorem and15 : ∀ n : Nat, n < 256 → bits .and .u8 (n : Int) 15 = ((n % 16 : Nat) : Int) := by decide +kernel
theorem and3u : ∀ n : Nat, n < 256 → bits .and .u8 (n : Int) 3 = ((n % 4 : Nat) : Int) := by decide +kernel
theorem entI_small (i : Nat) (h : i < 20) : (entI i).small := small_same (i + 1) _ _ (by omega) (by rw [prevS_16 i (by omega)]; exact Nat.le_refl _) 2
theorem entsI_small (n : Nat) (h : n ≤ 16) : ∀ x ∈ entsI n, x.small := by
  intro x hx
  obtain ⟨i, hi, rfl⟩ := List.mem_map.1 hx
  exact entI_small i (by have := List.mem_range.1 hi; omega)
set_option maxRecDepth 100000 in
set_option maxHeartbeats 800000 in
theorem entryHistories_walk (n a h : Nat) (hn : n < 256) (ha : a < 256) (hh : h < 256) (w : World) (hr : ShaReady w) :
    Calls Tryd.prog 6 #[.int .u8 n, .int .u8 a, .int .u8 h] w fun e w' => e = .returned (.bool true) ∧ w.grownBy w' none := by
  obtain ⟨i0, hti, hz0, hz1, hz2⟩ := info_parts infoEnt
  have HR := Lib.hid hr
  have HSP := Lib.hid (ent_speaks w hr)
  have h15 := and15 n hn
  have h3 := and3u h hh
  obtain ⟨m', hm'⟩ : ∃ m', n % 16 = m' := ⟨_, rfl⟩
  have hm16 : m' ≤ 15 := by omega
  obtain ⟨q, hq⟩ : ∃ q, h % 4 = q := ⟨_, rfl⟩
  have hq4 : q ≤ 3 := by omega
  rw [hm'] at h15
  rw [hq] at h3
  obtain ⟨m, hm⟩ : ∃ m, m' + 1 = m := ⟨_, rfl⟩
  have e1 : 1 + (m' : Int) = (m : Int) := by omega
  have e2 : (m' : Int) + 1 = (m : Int) := by omega
  have hm1 : 1 ≤ m := by omega
  have hm17 : m ≤ 16 := by omega
  have cm : IntKind.i64.wrap (m' : Int) = (m' : Int) := IntWalk.i64_in _ (by omega)
  have cm2 : IntKind.i64.wrap (m : Int) = (m : Int) := IntWalk.i64_in _ (by omega)
  clear hr hm' hq hm
  go_enter Tryd.func6, Tryd.ntmps6
  go_wp2_with fail
  refine HSP.out.mono ?_
  rintro e w1 ⟨rfl, g1⟩
  have HG1 := Lib.hid g1
  obtain ⟨LB, hLB⟩ : ∃ LB, w1.heap.size = LB := ⟨_, rfl⟩
  have HLB : Hid (w.heap.size ≤ LB ∧ w1.heap.size = LB) := ⟨by rw [← hLB]; exact g1.size, hLB⟩
  clear g1 HSP hLB
  go_wp2_with fail
  go_loopw [8, 9, 10, 11] (fun lv pv iv _ wr => ∃ (i : Nat) (u : Value), i ≤ m ∧ iv = .int .i64 i ∧ u = lv ∧ pv = .string (prevS i) ∧ Hid (wr.ownsRow LB 52 5 u (entsI i).length (entsV (entsI i))) ∧ Hid (w.grownBy wr none) ∧ Hid (LB ≤ wr.heap.size)) (fun _ _ iv _ _ => m - (intOf iv).toNat)
  case atStart => exact ⟨0, _, Nat.zero_le _, rfl, rfl, rfl, World.ownsRow_nil _ _ _ _, HG1.out, by show LB ≤ _; rw [HLB.out.2]; exact Nat.le_refl _⟩
  case round =>
    obtain ⟨i, u, hi, rfl, rfl, rfl, HO, HG, HLS⟩ := hrel
    by_cases hlt : i < m
    · have d1 : (i : Int) < (m : Int) := by omega
      have d0 : (0 : Int) ≤ (i : Int) := by omega
      have w3 : IntKind.u8.wrap (i : Int) = (i : Int) := IntWalk.u8_in _ (by omega)
      have hkey := fun w' => key17_any (UInt8.ofNat i) w'
      have hc8 : (UInt8.ofNat i).toNat = i := by simp; omega
      rw [hc8] at hkey
      unfold pubZ at hkey
      have hvs := fun w' q => evalue_any (entI i) (entI_small i (by omega)) w' q
      have hps := prevS_succ i
      rw [← hps] at hvs
      unfold entI EntS.val at hvs
      simp only at hvs
      obtain ⟨j, hj⟩ : ∃ j, i + 1 = j := ⟨_, rfl⟩
      have hes := entsI_succ i
      unfold entI at hes
      rw [hj] at hvs hes
      have HES : Hid (entsI j = entsI i ++ [⟨j, sameS (UInt8.ofNat i), noughtsS, 2, prevS i⟩]) := hes
      have hul := entsI_len i
      generalize sameS (UInt8.ofNat i) = S at hkey hvs HES
      obtain ⟨P, hP⟩ : ∃ P, prevS i = P := ⟨_, rfl⟩
      rw [hP] at hvs HES ⊢
      obtain ⟨P2, hP2⟩ : ∃ P2, prevS j = P2 := ⟨_, rfl⟩
      rw [hP2] at hvs
      have HP2 := Lib.hid hP2
      have HKEY : Hid (∀ w' : World, Calls Tryd.prog 29 #[.int .u8 i] w' fun e w'' => e = .returned (.agg #[.string S, .string noughtsS, .int .i64 2]) ∧ w'.grownBy w'' none) := hkey
      have HV : Hid (∀ w' : World, ShaReady w' → Calls Tryd.prog 24 #[.agg #[.int .u64 (j : Int), .string S, .string noughtsS, .int .i64 2, .string P]] w' fun e w'' => e = .returned (.string P2) ∧ w'.grownBy w'' none) := hvs
      obtain ⟨ua, uc, rfl⟩ := slice_own5 HO.out
      rw [hul] at HO ⊢
      have HUL := Lib.hid hul
      have HSZ : Hid (i + 1 ≤ maxLen ∧ (i + 1) * 64 ≤ 140737488355328) := ⟨by unfold maxLen; omega, by omega⟩
      have e7 : (i : Int) + 1 = (j : Int) := by omega
      have HJ := Lib.hid hj
      have w1 : IntKind.u64.wrap (j : Int) = (j : Int) := IntWalk.u64_in _ (by omega)
      have w2 : IntKind.i64.wrap (j : Int) = (j : Int) := IntWalk.i64_in _ (by omega)
      clear hj hes hkey hvs hps hul hP hP2 hc8
      go_wp2_with fail
      refine (HKEY.out _).mono ?_
      rintro e w3 ⟨rfl, g3⟩
      have hb3 := heap_alloc_at w3 (.cells #[.int .u64 (j : Int), .string S, .string noughtsS, .int .i64 2, .string P] 52) _ rfl
      have hg3 := World.grownBy_alloc w3 (.cells #[.int .u64 (j : Int), .string S, .string noughtsS, .int .i64 2, .string P] 52) none
      obtain ⟨XB, hXB⟩ : ∃ XB, w3.heap.size = XB := ⟨_, rfl⟩
      obtain ⟨W3, hW3⟩ : ∃ W3, w3.alloc (.cells #[.int .u64 (j : Int), .string S, .string noughtsS, .int .i64 2, .string P] 52) = W3 := ⟨_, rfl⟩
      rw [hW3] at hb3 hg3
      rw [hXB] at hb3
      have hx3 : LB ≤ XB := by have := HLS.out; have := g3.size; rw [← hXB]; omega
      have hown := own_grown5 HO.out (grownBy_trans g3 hg3)
      have HH3 : Hid (HIn LB XB w (.slice ua i uc) (entsI i) ⟨j, S, noughtsS, 2, P⟩ W3) := ⟨by rw [HUL.out]; exact hown, hb3, grownBy_trans HG.out (grownBy_trans g3 hg3), fun q => by have h1 := (HO.out.lt XB q).2; have h2 := g3.size; omega, HLB.out.1, hx3⟩
      have HW3 := Lib.hid (And.intro hW3 hXB)
      obtain ⟨x0, x1, x2, x3, x4⟩ := HH3.out.cells
      clear g3 hb3 hg3 hXB hW3 hx3 hown HO HG
      go_wp2_with (rw [HW3.out.1, HW3.out.2])
      refine wp_region_held_drew (S := (fun w' => w'.cell? ⟨XB, 0, none⟩ = some (.int .u64 (j : Int)) ∧ w'.cell? ⟨XB, 1, none⟩ = some (.string S) ∧ w'.cell? ⟨XB, 2, none⟩ = some (.string noughtsS) ∧ w'.cell? ⟨XB, 3, none⟩ = some (.int .i64 2) ∧ w'.cell? ⟨XB, 4, none⟩ = some (.string P))) (by kernel_rfl) ?hseh (fun hHeld => ?rgeh)
      case hseh => exact (HIn.cells (HIn.drew HH3.out))
      case rgeh =>
        refine wpAnyH_take (i := 0) (v := ?veh_0) rfl (by kernel_rfl) (by kernel_rfl) (by kernel_rfl) (fun _ _ _ h => h) (Or.inl ⟨by kernel_rfl, ?heh_0⟩) (by assumption) ?reh_0
        case heh_0 => (intro w0 hSw; (try dsimp only at hSw); go_simp; (try with_reducible rfl))
        try simp only [Act.put, List.setIfInBounds_toArray, List.set_cons_zero, List.set_cons_succ]
        refine wpAnyH_take (i := 1) (v := ?veh_1) rfl (by kernel_rfl) (by kernel_rfl) (by kernel_rfl) (fun _ _ _ h => h) (Or.inl ⟨by kernel_rfl, ?heh_1⟩) (by assumption) ?reh_1
        case heh_1 => (intro w0 hSw; (try dsimp only at hSw); go_simp; (try with_reducible rfl))
        try simp only [Act.put, List.setIfInBounds_toArray, List.set_cons_zero, List.set_cons_succ]
        refine wpAnyH_take (i := 4) (v := ?veh_2) rfl (by kernel_rfl) (by kernel_rfl) (by kernel_rfl) (fun _ _ _ h => h) (Or.inl ⟨by kernel_rfl, ?heh_2⟩) (by assumption) ?reh_2
        case heh_2 => (intro w0 hSw; (try dsimp only at hSw); go_simp; (try with_reducible rfl))
        try simp only [Act.put, List.setIfInBounds_toArray, List.set_cons_zero, List.set_cons_succ]
        refine wpAnyH_ready (rs := [2]) (by kernel_rfl) (by simp) ?_
        refine AllReadyH.cons rfl (fun K hK => ?aeh_4) ?beh_4
        case aeh_4 =>
          go_simp
          refine hK.out _ _ ?seh_4 (fun hHeld => ?teh_4)
          case seh_4 => (first | with_reducible exact ck | with_reducible exact HIn.cells (HIn.drew (HIn.go HH3.out (World.grownBy_alloc W3 (.cells #[.int .u64 (j : Int), .string S, .string noughtsS, .int .i64 2, .string P] 52) none))) | with_reducible exact HIn.cells (HIn.go k5 (World.grownBy_alloc w5 _ none)))
          case teh_4 =>
            clear hK K
            try simp only [Act.put, List.setIfInBounds_toArray, List.set_cons_zero, List.set_cons_succ]
            refine wpAnyH_ready (rs := [3]) (by kernel_rfl) (by simp) ?_
            refine AllReadyH.cons rfl (fun K hK => ?aeh_5) ?beh_5
            case aeh_5 =>
              (refine step_append_lies _ rfl (.tmp 33) (.tmp 35) 65 rfl LB 52 i0 (.agg #[.int .u64 0, .string ⟨#[]⟩, .string ⟨#[]⟩, .int .i64 0, .string ⟨#[]⟩]) 5 64 Tryd.underlying65 hti hz0 hz1 hz2 rfl (by decide) (.slice ua i uc) i (entsV (entsI i)) rfl (HIn.own' (HIn.drew (HIn.go HH3.out (World.grownBy_alloc W3 (.cells #[.int .u64 (j : Int), .string S, .string noughtsS, .int .i64 2, .string P] 52) none))) HUL.out) ⟨W3.heap.size, 0, none⟩ 1 1 [.int .u64 (j : Int), .string S, .string noughtsS, .int .i64 2, .string P] rfl rfl (World.news_of_block (heap_alloc_at W3 (.cells #[.int .u64 (j : Int), .string S, .string noughtsS, .int .i64 2, .string P] 52) _ rfl)) (entsV_onecell [⟨j, S, noughtsS, 2, P⟩]) (Nat.zero_lt_one) HSZ.out.1 HSZ.out.2 (HIn.base (HIn.drew (HIn.go HH3.out (World.grownBy_alloc W3 (.cells #[.int .u64 (j : Int), .string S, .string noughtsS, .int .i64 2, .string P] 52) none)))) _ rfl ?_; intro g8 c8 w8 ho8 hg8 hor _; have k8 := HIn.push' (HIn.drew (HIn.go HH3.out (World.grownBy_alloc W3 (.cells #[.int .u64 (j : Int), .string S, .string noughtsS, .int .i64 2, .string P] 52) none))) HUL.out ⟨j, S, noughtsS, 2, P⟩ hg8 ho8 hor; have ck := HIn.cells k8)
              refine hK.out _ _ ?seh_5 (fun hHeld => ?teh_5)
              case seh_5 => (first | with_reducible exact ck | with_reducible exact HIn.cells (HIn.drew (HIn.go HH3.out (World.grownBy_alloc W3 (.cells #[.int .u64 (j : Int), .string S, .string noughtsS, .int .i64 2, .string P] 52) none))) | with_reducible exact HIn.cells (HIn.go k5 (World.grownBy_alloc w5 _ none)))
              case teh_5 =>
                clear hK K
                try simp only [Act.put, List.setIfInBounds_toArray, List.set_cons_zero, List.set_cons_succ]
                refine wpAnyH_ready (rs := [5]) (by kernel_rfl) (by simp) ?_
                refine AllReadyH.cons rfl (fun K hK => ?aeh_6) ?beh_6
                case aeh_6 =>
                  (go_simp; go_at_call 24; (with_reducible refine (HV.out _ (HR.out.grown (HIn.gr k8))).mono ?_); rintro e w5 ⟨rfl, g5⟩; have k5 := HIn.go k8 g5; have ck := HIn.cells k5)
                  refine hK.out _ _ ?seh_6 (fun hHeld => ?teh_6)
                  case seh_6 => (first | with_reducible exact ck | with_reducible exact HIn.cells (HIn.drew (HIn.go HH3.out (World.grownBy_alloc W3 (.cells #[.int .u64 (j : Int), .string S, .string noughtsS, .int .i64 2, .string P] 52) none))) | with_reducible exact HIn.cells (HIn.go k5 (World.grownBy_alloc w5 _ none)))
                  case teh_6 =>
                    clear hK K
                    try simp only [Act.put, List.setIfInBounds_toArray, List.set_cons_zero, List.set_cons_succ]
                    refine wpAnyH_ready (rs := [6]) (by kernel_rfl) (by simp) ?_
                    refine AllReadyH.cons rfl (fun K hK => ?aeh_7) ?beh_7
                    case aeh_7 =>
                      go_simp
                      refine hK.out _ _ ?seh_7 (fun hHeld => ?teh_7)
                      case seh_7 => (first | with_reducible exact ck | with_reducible exact HIn.cells (HIn.drew (HIn.go HH3.out (World.grownBy_alloc W3 (.cells #[.int .u64 (j : Int), .string S, .string noughtsS, .int .i64 2, .string P] 52) none))) | with_reducible exact HIn.cells (HIn.go k5 (World.grownBy_alloc w5 _ none)))
                      case teh_7 =>
                        clear hK K
                        try simp only [Act.put, List.setIfInBounds_toArray, List.set_cons_zero, List.set_cons_succ]
                        refine wpAnyH_ready (rs := [7]) (by kernel_rfl) (by simp) ?_
                        refine AllReadyH.cons rfl (fun K hK => ?aeh_8) ?beh_8
                        case aeh_8 =>
                          go_simp
                          refine hK.out _ _ ?seh_8 (fun hHeld => ?teh_8)
                          case seh_8 => (first | with_reducible exact ck | with_reducible exact HIn.cells (HIn.drew (HIn.go HH3.out (World.grownBy_alloc W3 (.cells #[.int .u64 (j : Int), .string S, .string noughtsS, .int .i64 2, .string P] 52) none))) | with_reducible exact HIn.cells (HIn.go k5 (World.grownBy_alloc w5 _ none)))
                          case teh_8 =>
                            clear hK K
                            try simp only [Act.put, List.setIfInBounds_toArray, List.set_cons_zero, List.set_cons_succ]
                            refine wpAnyH_done (by kernel_rfl) ?_ _
                            try dsimp only
                            (go_wp2_with fail; go_roundw; (case rel => exact ⟨j, _, by have := HJ.out; omega, rfl, rfl, by rw [HP2.out], by rw [HES.out]; exact HIn.own k5, HIn.gr k5, HIn.base k5⟩); (case measure => have := HJ.out; simp [intOf]; omega))
                        case beh_8 =>
                          exact AllReadyH.nil
                    case beh_7 =>
                      exact AllReadyH.nil
                case beh_6 =>
                  exact AllReadyH.nil
            case beh_5 =>
              exact AllReadyH.nil
        case beh_4 =>
          exact AllReadyH.nil
    · have him : i = m := by omega
      subst him
      have d1 : ¬ (i : Int) < (i : Int) := by omega
      have hlen := entsI_len i
      rw [hlen] at HO
      obtain ⟨ug, uc, rfl⟩ := own_some HO.out (by omega)
      have hh0 := entsI_hist i (by omega) hm17
      have hcall := fun (w' : World) (ho : w'.ownsRow LB 52 5 (.slice (some ⟨ug, 0, none⟩) i uc) i (entsV (entsI i))) hr => hist_call (entsI i) (entsI_small i hm17) (by omega) i hlen _ w' LB ho hr
      rw [hh0] at hcall
      have HCA := Lib.hid hcall
      have HNL : Hid (∀ w' : World, ShaReady w' → Calls Tryd.prog 30 #[.slice none 0 0] w' fun e w'' => e = .returned (.int .i64 20) ∧ w'.grownBy w'' none) := fun w' hr => ehistory_any (.slice none 0 0) [] (by simp) (by simp) w' hr ⟨none, 0, rfl, fun i hi => absurd hi (by simp)⟩
      obtain ⟨k, hk⟩ : ∃ k, a % i = k := ⟨_, rfl⟩
      have hki : k < i := by rw [← hk]; exact Nat.mod_lt _ (by omega)
      have r1 : (a : Int).tmod (i : Int) = (k : Int) := by rw [← hk]; exact Int.ofNat_tmod a i |>.symm ▸ rfl
      have r2 : (a : Int) % (i : Int) = (k : Int) := by rw [← hk]; rfl
      have r3 : IntKind.i64.wrap (a : Int) = (a : Int) := IntWalk.i64_in _ (by omega)
      have r4 : ((i : Int) == 0) = false := beq_eq_false_iff_ne.2 (by omega)
      have r5 : IntKind.i64.wrap (k : Int) = (k : Int) := IntWalk.i64_in _ (by omega)
      have hl5 := entsV_len (entsI i)
      rw [hlen] at hl5
      have HL5 := Lib.hid (And.intro hl5 hlen)
      clear hcall hh0 hk hlen hl5 hlt hi
      go_wp2_with fail
      refine (HCA.out _ HO.out (HR.out.grown HG.out)).mono ?_
      rintro e w3 ⟨rfl, g3⟩
      have HO3 := Lib.hid (own_grown5 HO.out g3)
      have HG3 := Lib.hid (grownBy_trans HG.out g3)
      clear g3
      go_wp2_with fail
      refine (HNL.out _ (HR.out.grown HG3.out)).mono ?_
      rintro e w4 ⟨rfl, g4⟩
      have HO4 := Lib.hid (own_grown5 HO3.out g4)
      have HG4 := Lib.hid (grownBy_trans HG3.out g4)
      have HLS4 : Hid (LB ≤ w4.heap.size) := by have := HLS.out; have := HG4.out.size; have h9 := (HO4.out.lt ug rfl); show _ ≤ _; omega
      clear g4 HO3 HG3 HO HG HLS
      obtain ⟨BB, hBB⟩ : ∃ BB, w4.heap.size = BB := ⟨_, rfl⟩
      have HBB := Lib.hid hBB
      have hem := own_empty w4 BB (by rw [hBB]; exact Nat.le_refl _)
      rw [hBB] at hem
      have HEM := Lib.hid hem
      clear hem
      go_wp2_with (at_builtin; go_loud (refine wpList_append_own _ rfl _ _ 65 rfl BB 52 i0 (.agg #[.int .u64 0, .string ⟨#[]⟩, .string ⟨#[]⟩, .int .i64 0, .string ⟨#[]⟩]) 5 64 Tryd.underlying65 hti hz0 hz1 hz2 rfl (by decide) _ 0 [] rfl HEM.out ⟨ug, 0, none⟩ i uc (entsV (entsI i)) rfl ?q1 (own_news (own_grown5 HO4.out (World.grownBy_alloc w4 _ none))) (entsV_onecell _) ?q3 ?q4 ?q5 ?_))
      case q1 => exact HL5.out.1
      case q3 => unfold maxLen; omega
      case q4 => omega
      case q5 => simp; omega
      intro v5 w5 ho5 hg5 _
      try rw [Nat.zero_add] at ho5
      try rw [List.nil_append] at ho5
      obtain ⟨bg, bc, rfl⟩ := own_some ho5 (by omega)
      have HO5 := Lib.hid ho5
      have hg45 : w4.grownBy w5 none := grown_row (World.grownBy_alloc w4 _ none) hg5 (fun g e => by cases e; show w4.heap.size ≤ BB; omega)
      have HG5 := Lib.hid (grownBy_trans HG4.out hg45)
      have HL5B := Lib.hid (own_grown5 HO4.out hg45)
      have HBU : Hid (ug < BB ∧ BB ≤ bg) := ⟨by have := (HO4.out.lt ug rfl).2; omega, (ho5.lt bg rfl).1⟩
      clear ho5 hg5 hg45 HO4 HG4 hBB
      have hkl : k < (entsI i).length := by rw [HL5.out.2]; exact hki
      have hek : (entsI i)[k] = entI k := by
        have := entsI_at i k hki
        rw [List.getElem?_eq_getElem hkl] at this
        exact Option.some.inj this
      have hat : ∀ j, j < 5 → w5.cell? ⟨bg, k * 5 + j, none⟩ = (entI k).cells[j]? := fun j hj => by
        rw [HO5.out.cellAt (k * 5 + j) (by omega), entsV_at _ k j hkl hj, hek]
      have c0 : w5.cell? ⟨bg, k * 5, none⟩ = some (.int .u64 ((k + 1 : Nat) : Int)) := hat 0 (by decide)
      have c3 : w5.cell? ⟨bg, k * 5 + 3, none⟩ = some (.int .i64 2) := hat 3 (by decide)
      have c4 : w5.cell? ⟨bg, k * 5 + 4, none⟩ = some (.string (prevS k)) := hat 4 (by decide)
      have ff := fun j => HO5.out.frozenAt j
      have k0 : (0 : Int) ≤ (k : Int) := by omega
      have k1 : (k : Int) < (i : Int) := by omega
      have HSM := Lib.hid (entsI_small i hm17)
      have HKL := Lib.hid (And.intro hkl hek)
      have k6 : IntKind.i64.wrap ((i : Int) - 1) = (i : Int) - 1 := IntWalk.i64_in _ (by omega)
      clear hat hek
      rcases (show q = 0 ∨ q = 1 ∨ q = 2 ∨ q = 3 by omega) with rfl | rfl | rfl | rfl
      · have h3' : bits .and .u8 (h : Int) 3 = 0 := h3
        have hst := HO5.out.stored (k * 5 + 3) (.int .i64 3)
        rw [entsV_set (entsI i) k 3 (.int .i64 3) (entH k) hkl (by decide) (by rw [HKL.out.2]; rfl)] at hst
        have hgb := grownBy_any_new HG5.out hst.2 (by have := HBU.out; have := HLS4.out; have := HLB.out.1; have := HBB.out; omega)
        have hsm2 := set_small HSM.out k (entH k) (small_same (k + 1) _ _ (by omega) (by rw [prevS_16 k (by omega)]; exact Nat.le_refl _) 3)
        have HHC := Lib.hid (hist_call _ hsm2 (by rw [List.length_set, HL5.out.2]; omega) i (by rw [List.length_set, HL5.out.2]) _ _ BB hst.1 (HR.out.grown hgb))
        have hres := hist0 i k hm17 hki
        have HGB := Lib.hid hgb
        clear hst hgb hsm2
        by_cases hl : k + 1 = i
        · rw [hres, if_pos hl] at HHC
          have l1 : ((k : Int) == (i : Int) - 1) = true := by simp; omega
          have HL1 := Lib.hid hl
          clear hl hres
          go_wp2_with fail
          refine HHC.out.mono ?_
          rintro e w6 ⟨rfl, g6⟩
          have HG6 := Lib.hid (grownBy_trans HGB.out g6)
          clear g6
          go_wp2_with fail
          go_ret
          exact ⟨by simp, HG6.out⟩
        · rw [hres, if_neg hl] at HHC
          have l1 : ((k : Int) == (i : Int) - 1) = false := beq_eq_false_iff_ne.2 (by omega)
          clear hl hres
          go_wp2_with fail
          refine HHC.out.mono ?_
          rintro e w6 ⟨rfl, g6⟩
          have HG6 := Lib.hid (grownBy_trans HGB.out g6)
          clear g6
          go_wp2_with fail
          go_ret
          exact ⟨by simp, HG6.out⟩
      · have h3' : bits .and .u8 (h : Int) 3 = 1 := h3
        obtain ⟨kv, hkv⟩ : ∃ kv, k + 1 = kv := ⟨_, rfl⟩
        rw [hkv] at c0
        have a1 : IntKind.u64.wrap ((kv : Int) + 5) = (kv : Int) + 5 := IntWalk.u64_in _ (by omega)
        have hst := HO5.out.stored (k * 5) (.int .u64 ((kv : Int) + 5))
        have hset := entsV_set (entsI i) k 0 (.int .u64 ((kv : Int) + 5)) (entV k) hkl (by decide) (by
          rw [HKL.out.2]
          have : ((kv : Int) + 5) = ((k + 6 : Nat) : Int) := by omega
          rw [this]
          rfl)
        rw [Nat.add_zero] at hset
        rw [hset] at hst
        have hgb := grownBy_any_new HG5.out hst.2 (by have := HBU.out; have := HLS4.out; have := HLB.out.1; have := HBB.out; omega)
        have hsm2 := set_small HSM.out k (entV k) (small_same (k + 6) _ _ (by omega) (by rw [prevS_16 k (by omega)]; exact Nat.le_refl _) 2)
        have HHC := Lib.hid (hist_call _ hsm2 (by rw [List.length_set, HL5.out.2]; omega) i (by rw [List.length_set, HL5.out.2]) _ _ BB hst.1 (HR.out.grown hgb))
        have hres := hist1 i k hm17 hki
        rw [hres] at HHC
        have HGB := Lib.hid hgb
        clear hst hgb hsm2 hres hset hkv
        go_wp2_with fail
        refine HHC.out.mono ?_
        rintro e w6 ⟨rfl, g6⟩
        have HG6 := Lib.hid (grownBy_trans HGB.out g6)
        clear g6
        go_wp2_with fail
        go_ret
        exact ⟨by simp, HG6.out⟩
      · have h3' : bits .and .u8 (h : Int) 3 = 2 := h3
        have HKZ : Hid (∀ w' : World, Calls Tryd.prog 29 #[.int .u8 122] w' fun e w'' => e = .returned (pubZ (sameS 122) noughtsS 2) ∧ w'.grownBy w'' none) := fun w' => key17_any 122 w'
        have HZS : Hid (∀ s : ByteArray, s = sameS 122 → (entI k).cells.set 4 (.string s) = (entP k).cells) := fun s hs => by rw [hs]; rfl
        have hzq := fun hs => entsV_set (entsI i) k 4 (.string (sameS 122)) (entP k) hkl (by decide) (by rw [HKL.out.2]; exact hs)
        have hzr := hzq rfl
        have HPS := Lib.hid (set_small HSM.out k (entP k) (small_same (k + 1) _ _ (by omega) (by decide) 2))
        unfold pubZ at HKZ
        generalize sameS 122 = Z at HKZ hzr
        have HZR := Lib.hid hzr
        have hfd : ∀ w' : World, (Instr.field 50 (.agg #[.string Z, .string noughtsS, .int .i64 2]) 0).run Tryd.prog w' = .ok (.string Z) w' := fun _ => by kernel_rfl
        clear hzq hzr HZS c0 c3 c4 ff
        go_wp2_with fail
        refine (HKZ.out _).mono ?_
        rintro e w6 ⟨rfl, g6⟩
        have ho6 := own_grown5 HO5.out g6
        have c4 : w6.cell? ⟨bg, k * 5 + 4, none⟩ = some (.string (prevS k)) := by
          rw [ho6.cellAt (k * 5 + 4) (by omega), entsV_at _ k 4 hkl (by decide), HKL.out.2]
          rfl
        have ff := fun j => ho6.frozenAt j
        have hst := ho6.stored (k * 5 + 4) (.string Z)
        rw [HZR.out] at hst
        have hgb := grownBy_any_new (grownBy_trans HG5.out g6) hst.2 (by have := HBU.out; have := HLS4.out; have := HLB.out.1; have := HBB.out; omega)
        have HHC := Lib.hid (hist_call _ HPS.out (by rw [List.length_set, HL5.out.2]; omega) i (by rw [List.length_set, HL5.out.2]) _ _ BB hst.1 (HR.out.grown hgb))
        have hres := hist2 i k hm17 hki
        rw [hres] at HHC
        have HGB := Lib.hid hgb
        clear hst hgb hres ho6 g6
        go_wp2_with fail
        refine HHC.out.mono ?_
        rintro e w7 ⟨rfl, g7⟩
        have HG7 := Lib.hid (grownBy_trans HGB.out g7)
        clear g7
        go_wp2_with fail
        go_ret
        exact ⟨by simp, HG7.out⟩
      · have h3' : bits .and .u8 (h : Int) 3 = 3 := h3
        have hub : i ≤ uc := by
          rcases HL5B.out.2 with ⟨e, _⟩ | ⟨g', cap', cur, e, _, _, h1, _⟩
          · cases e
          · cases e; exact h1
        obtain ⟨kk, hkk⟩ : ∃ kk, k + 1 = kk := ⟨_, rfl⟩
        have t1 : (k : Int) + 1 = (kk : Int) := by omega
        have t2 : IntKind.i64.wrap (kk : Int) = (kk : Int) := IntWalk.i64_in _ (by omega)
        have t3 : (kk : Int) ≤ (i : Int) := by omega
        have t4 : (k : Int) ≤ (uc : Int) := by omega
        have t5 : (i : Int) ≤ (uc : Int) := by omega
        have t6 : (0 : Int) ≤ (kk : Int) := by omega
        have t7 : kk ≤ i := by omega
        have t8 : k ≤ uc := by omega
        have hlt5 : (entsV ((entsI i).take k)).length = k * 5 := by rw [entsV_len, List.length_take, HL5.out.2, Nat.min_eq_left (by omega)]
        have hld5 : (entsV ((entsI i).drop kk)).length = (i - kk) * 5 := by rw [entsV_len, List.length_drop, HL5.out.2]
        have HT1 : Hid ((entsV ((entsI i).take k)).length = k * 5 ∧ (∀ j u, (entsV ((entsI i).take k))[j]? = some u → (entsV (entsI i))[0 + j]? = some u) ∧ 0 + k ≤ maxLen ∧ (0 + k) * 64 ≤ 140737488355328) := by
          refine ⟨hlt5, fun j u hu => ?_, by unfold maxLen; omega, by omega⟩
          rw [entsV_take, List.getElem?_take] at hu
          split at hu
          · rw [Nat.zero_add]; exact hu
          · cases hu
        have HT2 : Hid ((entsV ((entsI i).drop kk)).length = (i - kk) * 5 ∧ k + (i - kk) ≤ maxLen ∧ (k + (i - kk)) * 64 ≤ 140737488355328) := ⟨hld5, by unfold maxLen; omega, by omega⟩
        obtain ⟨AD, hAD⟩ : ∃ AD : Addr, (if uc = kk then some (⟨ug, 0, none⟩ : Addr) else some ⟨ug, kk * 5, none⟩) = some AD := by
          split
          · exact ⟨_, rfl⟩
          · exact ⟨_, rfl⟩
        have HAD : Hid ((if uc = kk then some (⟨ug, 0, none⟩ : Addr) else some ⟨ug, kk * 5, none⟩) = some AD ∧ ∀ w' : World, w'.ownsRow LB 52 5 (.slice (some ⟨ug, 0, none⟩) i uc) i (entsV (entsI i)) → ∀ j u, (entsV ((entsI i).drop kk))[j]? = some u → w'.cell? (AD.add j) = some u) := by
          refine ⟨hAD, fun w' ho => ?_⟩
          by_cases hc : uc = kk
          · intro j u hu
            have := (List.getElem?_eq_some_iff.1 hu).1
            rw [hld5] at this
            omega
          · rw [if_neg hc] at hAD
            cases hAD
            refine news_at ho (kk * 5) _ fun j u hu => ?_
            rw [entsV_drop, List.getElem?_drop] at hu
            exact hu
        have HSB : Hid (∀ x ∈ (entsI i).take k ++ (entsI i).drop kk, x.small) := fun x hx => by
          rcases List.mem_append.1 hx with h1 | h1
          · exact HSM.out x (List.mem_of_mem_take h1)
          · exact HSM.out x (List.mem_of_mem_drop h1)
        have HLB2 : Hid (((entsI i).take k ++ (entsI i).drop kk).length = k + (i - kk)) := by
          show _ = _
          rw [List.length_append, List.length_take, List.length_drop, HL5.out.2, Nat.min_eq_left (by omega)]
        have h3z := hist3 i k hm17 hki
        rw [hkk] at h3z
        have HH3Z : Hid ((histE ((entsI i).take k ++ (entsI i).drop kk) == 0) = (decide (k + 1 = i) && decide (1 < i))) := by rw [hkk]; exact h3z
        have hek2 : entI k = ⟨kk, sameS (UInt8.ofNat k), noughtsS, 2, prevS k⟩ := by rw [← hkk]; rfl
        have hh4 := hist4 i k hm17 hki
        have hsm4 : ∀ x ∈ entsI i ++ [entI k], x.small := fun x hx => by
          rcases List.mem_append.1 hx with h1 | h1
          · exact HSM.out x h1
          · rw [List.mem_singleton.1 h1]; exact entI_small k (by omega)
        rw [hek2] at hh4 hsm4
        generalize sameS (UInt8.ofNat k) = S at hek2 hh4 hsm4
        generalize prevS k = P at hek2 hh4 hsm4
        have HEK := Lib.hid hek2
        have HH4 := Lib.hid (And.intro hh4 hsm4)
        clear hkk c0 c3 c4 ff hlt5 hld5 hAD h3z hek2 hh4 hsm4
        go_wp2_with fail
        refine wp_region_any (by kernel_rfl) ?_
        try (change wpAny _ _ _ _ _ _ _ (World.drew _))
        refine wpAny_take (i := 1) (v := ?vez_0) rfl (by kernel_rfl) (by kernel_rfl) (by kernel_rfl) (fun _ _ _ h => h) (Or.inl ⟨by rfl, ?hez_0⟩) ?rez_0
        case hez_0 => (intro w0; go_simp; (try with_reducible rfl))
        try simp only [Act.put, List.setIfInBounds_toArray, List.set_cons_zero, List.set_cons_succ]
        refine wpAny_take (i := 2) (v := ?vez_1) rfl (by kernel_rfl) (by kernel_rfl) (by kernel_rfl) (fun _ _ _ h => h) (Or.inl ⟨by rfl, ?hez_1⟩) ?rez_1
        case hez_1 => (intro w0; go_simp; (try with_reducible rfl))
        try simp only [Act.put, List.setIfInBounds_toArray, List.set_cons_zero, List.set_cons_succ]
        refine wpAny_take (i := 3) (v := ?vez_2) rfl (by kernel_rfl) (by kernel_rfl) (by kernel_rfl) (fun _ _ _ h => h) (Or.inl ⟨by rfl, ?hez_2⟩) ?rez_2
        case hez_2 => (intro w0; go_simp; (try with_reducible rfl))
        try simp only [Act.put, List.setIfInBounds_toArray, List.set_cons_zero, List.set_cons_succ]
        refine wpAny_take (i := 5) (v := ?vez_3) rfl (by kernel_rfl) (by kernel_rfl) (by kernel_rfl) (fun _ _ _ h => h) (Or.inl ⟨by rfl, ?hez_3⟩) ?rez_3
        case hez_3 => (intro w0; go_simp; (try with_reducible rfl))
        try simp only [Act.put, List.setIfInBounds_toArray, List.set_cons_zero, List.set_cons_succ]
        refine wpAny_take (i := 6) (v := ?vez_4) rfl (by kernel_rfl) (by kernel_rfl) (by kernel_rfl) (fun _ _ _ h => h) (Or.inl ⟨by rfl, ?hez_4⟩) ?rez_4
        case hez_4 => (intro w0; go_simp; (try with_reducible rfl))
        try simp only [Act.put, List.setIfInBounds_toArray, List.set_cons_zero, List.set_cons_succ]
        refine wpAny_take (i := 7) (v := ?vez_5) rfl (by kernel_rfl) (by kernel_rfl) (by kernel_rfl) (fun _ _ _ h => h) (Or.inl ⟨by rfl, ?hez_5⟩) ?rez_5
        case hez_5 => (intro w0; go_simp; (try with_reducible rfl))
        try simp only [Act.put, List.setIfInBounds_toArray, List.set_cons_zero, List.set_cons_succ]
        refine wpAny_take (i := 8) (v := ?vez_6) rfl (by kernel_rfl) (by kernel_rfl) (by kernel_rfl) (fun _ _ _ h => h) (Or.inl ⟨by rfl, ?hez_6⟩) ?rez_6
        case hez_6 => (intro w0; go_simp; (try with_reducible rfl))
        try simp only [Act.put, List.setIfInBounds_toArray, List.set_cons_zero, List.set_cons_succ]
        refine wpAny_ready (rs := [0]) (by kernel_rfl) (by simp) ?_
        refine AllReady.cons rfl (fun K hK => ?aez_8) ?bez_8
        case aez_8 =>
          go_simp
          refine hK _ _ ?_
          clear hK K
          try simp only [Act.put, List.setIfInBounds_toArray, List.set_cons_zero, List.set_cons_succ]
          refine wpAny_ready (rs := [4]) (by kernel_rfl) (by simp) ?_
          refine AllReady.cons rfl (fun K hK => ?aez_9) ?bez_9
          case aez_9 =>
            (refine step_append_own _ rfl (.tmp 94) (.tmp 97) 65 rfl w5.heap.size 52 i0 (.agg #[.int .u64 0, .string ⟨#[]⟩, .string ⟨#[]⟩, .int .i64 0, .string ⟨#[]⟩]) 5 64 Tryd.underlying65 hti hz0 hz1 hz2 rfl (by decide) (.slice (some ⟨w5.heap.size, 0, none⟩) 0 0) 0 [] rfl (own_drew (own_empty w5 w5.heap.size (Nat.le_refl _))) ⟨ug, 0, none⟩ k uc (entsV ((entsI i).take k)) rfl HT1.out.1 (news_at (own_drew (own_grown5 HL5B.out (World.grownBy_alloc w5 _ none))) 0 _ HT1.out.2.1) (entsV_onecell _) HT1.out.2.2.1 HT1.out.2.2.2 (by simp) ?_; intro v7 w7 ho7 hg7; (try simp only [Nat.zero_add, List.nil_append] at ho7); have hg57 : w5.grownBy w7 none := grown_row (grownBy_drew (World.grownBy_alloc w5 _ none)) hg7 (fun g e => by cases e; exact Nat.le_refl _); have hl7 := own_grown5 HL5B.out hg57)
            refine hK _ _ ?_
            clear hK K
            try simp only [Act.put, List.setIfInBounds_toArray, List.set_cons_zero, List.set_cons_succ]
            refine wpAny_ready (rs := [9]) (by kernel_rfl) (by simp) ?_
            refine AllReady.cons rfl (fun K hK => ?aez_10) ?bez_10
            case aez_10 =>
              (refine step_append_own _ rfl (.tmp 98) (.tmp 102) 65 rfl w5.heap.size 52 i0 (.agg #[.int .u64 0, .string ⟨#[]⟩, .string ⟨#[]⟩, .int .i64 0, .string ⟨#[]⟩]) 5 64 Tryd.underlying65 hti hz0 hz1 hz2 rfl (by decide) v7 k (entsV ((entsI i).take k)) rfl ho7 AD (i - kk) (uc - kk) (entsV ((entsI i).drop kk)) (congrArg (fun q => Value.slice q (i - kk) (uc - kk)) HAD.out.1) HT2.out.1 (HAD.out.2 _ hl7) (entsV_onecell _) HT2.out.2.1 HT2.out.2.2 hg57.size ?_; intro v8 w8 ho8 hg8; have hg58 : w5.grownBy w8 none := grown_row hg57 hg8 (fun g e => (ho7.lt g e).1))
              refine hK _ _ ?_
              clear hK K
              try simp only [Act.put, List.setIfInBounds_toArray, List.set_cons_zero, List.set_cons_succ]
              refine wpAny_ready (rs := [10]) (by kernel_rfl) (by simp) ?_
              refine AllReady.cons rfl (fun K hK => ?aez_11) ?bez_11
              case aez_11 =>
                go_simp
                refine hK _ _ ?_
                clear hK K
                try simp only [Act.put, List.setIfInBounds_toArray, List.set_cons_zero, List.set_cons_succ]
                refine wpAny_done (by kernel_rfl) ?_ _
                try dsimp only
                rw [HAD.out.1]
                have HI1 : Hid (i + 1 ≤ maxLen ∧ (i + 1) * 64 ≤ 140737488355328) := ⟨by unfold maxLen; omega, by omega⟩
                have HG8 := Lib.hid (grownBy_trans HG5.out hg58)
                have HL8 := Lib.hid (own_grown5 HL5B.out hg58)
                have hob : w8.ownsRow w5.heap.size 52 5 v8 (k + (i - kk)) (entsV ((entsI i).take k ++ (entsI i).drop kk)) := by rw [entsV_append]; exact ho8
                have hhb := hist_call _ HSB.out (by have := HLB2.out; omega) (k + (i - kk)) HLB2.out v8 w8 _ hob (HR.out.grown HG8.out)
                obtain ⟨z, hz⟩ : ∃ z, histE ((entsI i).take k ++ (entsI i).drop kk) = z := ⟨_, rfl⟩
                rw [hz] at hhb
                have HHB := Lib.hid hhb
                have h3z := HH3Z.out
                rw [hz] at h3z
                clear ho8 hg8 hg58 ho7 hg7 hg57 hl7 hob hhb hz
                go_wp2_with fail
                refine HHB.out.mono ?_
                rintro e w9 ⟨rfl, g9⟩
                have HG9 := Lib.hid (grownBy_trans HG8.out g9)
                have HL9 := Lib.hid (own_grown5 HL8.out g9)
                clear g9
                have hat9 : ∀ j, j < 5 → w9.cell? ⟨ug, k * 5 + j, none⟩ = (entI k).cells[j]? := fun j hj => by rw [HL9.out.cellAt (k * 5 + j) (by omega), entsV_at _ k j HKL.out.1 hj, HKL.out.2]
                rw [HEK.out] at hat9
                have b0 : w9.cell? ⟨ug, k * 5, none⟩ = some (.int .u64 (kk : Int)) := hat9 0 (by decide)
                have b1 : w9.cell? ⟨ug, k * 5 + 1, none⟩ = some (.string S) := hat9 1 (by decide)
                have b2 : w9.cell? ⟨ug, k * 5 + 2, none⟩ = some (.string noughtsS) := hat9 2 (by decide)
                have b3 : w9.cell? ⟨ug, k * 5 + 3, none⟩ = some (.int .i64 2) := hat9 3 (by decide)
                have b4 : w9.cell? ⟨ug, k * 5 + 4, none⟩ = some (.string P) := hat9 4 (by decide)
                clear hat9
                have hways : (k + 1 = i ∧ 1 < i ∧ (z == 0) = true) ∨ (k + 1 = i ∧ ¬ 1 < i ∧ (z == 0) = false) ∨ (k + 1 ≠ i ∧ (z == 0) = false) := by
                  by_cases q1 : k + 1 = i
                  · by_cases q2 : 1 < i
                    · exact .inl ⟨q1, q2, by rw [h3z]; simp [q1, q2]⟩
                    · exact .inr (.inl ⟨q1, q2, by rw [h3z]; simp [q2]⟩)
                  · exact .inr (.inr ⟨q1, by rw [h3z]; simp [q1]⟩)
                clear h3z
                rcases hways with ⟨q1, q2, q3⟩ | ⟨q1, q2, q3⟩ | ⟨q1, q3⟩
                · have l1 : ((k : Int) == (i : Int) - 1) = true := by rw [beq_iff_eq]; omega
                  have l2 : (i : Int) > 1 := by omega
                  clear q1 q2
                  go_wp2_with (at_builtin; refine wpList_append_own_g _ (by kernel_rfl) _ _ 65 rfl LB 52 i0 (.agg #[.int .u64 0, .string ⟨#[]⟩, .string ⟨#[]⟩, .int .i64 0, .string ⟨#[]⟩]) 5 64 Tryd.underlying65 hti hz0 hz1 hz2 rfl (by decide) (.slice (some ⟨ug, 0, none⟩) i uc) i (entsV (entsI i)) rfl (own_grown5 HL9.out (World.grownBy_alloc w9 _ none)) ⟨w9.heap.size, 0, none⟩ 1 1 [.int .u64 (kk : Int), .string S, .string noughtsS, .int .i64 2, .string P] rfl rfl (World.news_of_block (heap_alloc_at w9 (.cells #[.int .u64 (kk : Int), .string S, .string noughtsS, .int .i64 2, .string P] 52) _ rfl)) (entsV_onecell [⟨kk, S, noughtsS, 2, P⟩]) HI1.out.1 HI1.out.2 (by have h1 := (HL9.out.lt ug rfl); simp; omega) ?_)
                  intro v10 w10 ho10 hg10
                  have HG10 : Hid (w.grownBy w10 none) := grown_row (grownBy_alloc' HG9.out _) hg10 (fun g e => by cases e; have h1 := (HL9.out.lt ug rfl).1; have := HLB.out.1; show w.heap.size ≤ ug; omega)
                  have hoc : w10.ownsRow LB 52 5 v10 (i + 1) (entsV (entsI i ++ [⟨kk, S, noughtsS, 2, P⟩])) := by rw [entsV_append, entsV_one]; exact ho10
                  have hhc := hist_call _ HH4.out.2 (by rw [List.length_append, HL5.out.2]; show i + 1 ≤ 1000; omega) (i + 1) (by rw [List.length_append, HL5.out.2]; rfl) v10 w10 _ hoc (HR.out.grown HG10.out)
                  rw [HH4.out.1] at hhc
                  have HHC := Lib.hid hhc
                  clear hhc hoc ho10 hg10
                  go_wp2_with fail
                  refine HHC.out.mono ?_
                  rintro e w11 ⟨rfl, g11⟩
                  have HG11 := Lib.hid (grownBy_trans HG10.out g11)
                  clear g11
                  go_wp2_with fail
                  go_ret
                  exact ⟨by simp, HG11.out⟩
                · have l1 : ((k : Int) == (i : Int) - 1) = true := by rw [beq_iff_eq]; omega
                  have l2 : (i : Int) ≤ 1 := by omega
                  have l3 : decide ((1 : Int) < (i : Int)) = false := by simp; omega
                  clear q1 q2
                  go_wp2_with (at_builtin; refine wpList_append_own_g _ (by kernel_rfl) _ _ 65 rfl LB 52 i0 (.agg #[.int .u64 0, .string ⟨#[]⟩, .string ⟨#[]⟩, .int .i64 0, .string ⟨#[]⟩]) 5 64 Tryd.underlying65 hti hz0 hz1 hz2 rfl (by decide) (.slice (some ⟨ug, 0, none⟩) i uc) i (entsV (entsI i)) rfl (own_grown5 HL9.out (World.grownBy_alloc w9 _ none)) ⟨w9.heap.size, 0, none⟩ 1 1 [.int .u64 (kk : Int), .string S, .string noughtsS, .int .i64 2, .string P] rfl rfl (World.news_of_block (heap_alloc_at w9 (.cells #[.int .u64 (kk : Int), .string S, .string noughtsS, .int .i64 2, .string P] 52) _ rfl)) (entsV_onecell [⟨kk, S, noughtsS, 2, P⟩]) HI1.out.1 HI1.out.2 (by have h1 := (HL9.out.lt ug rfl); simp; omega) ?_)
                  intro v10 w10 ho10 hg10
                  have HG10 : Hid (w.grownBy w10 none) := grown_row (grownBy_alloc' HG9.out _) hg10 (fun g e => by cases e; have h1 := (HL9.out.lt ug rfl).1; have := HLB.out.1; show w.heap.size ≤ ug; omega)
                  have hoc : w10.ownsRow LB 52 5 v10 (i + 1) (entsV (entsI i ++ [⟨kk, S, noughtsS, 2, P⟩])) := by rw [entsV_append, entsV_one]; exact ho10
                  have hhc := hist_call _ HH4.out.2 (by rw [List.length_append, HL5.out.2]; show i + 1 ≤ 1000; omega) (i + 1) (by rw [List.length_append, HL5.out.2]; rfl) v10 w10 _ hoc (HR.out.grown HG10.out)
                  rw [HH4.out.1] at hhc
                  have HHC := Lib.hid hhc
                  clear hhc hoc ho10 hg10
                  go_wp2_with fail
                  refine HHC.out.mono ?_
                  rintro e w11 ⟨rfl, g11⟩
                  have HG11 := Lib.hid (grownBy_trans HG10.out g11)
                  clear g11
                  go_wp2_with fail
                  go_ret
                  exact ⟨by simp, HG11.out⟩
                · have l1 : ((k : Int) == (i : Int) - 1) = false := by rw [beq_eq_false_iff_ne]; omega
                  clear q1
                  go_wp2_with (at_builtin; refine wpList_append_own_g _ (by kernel_rfl) _ _ 65 rfl LB 52 i0 (.agg #[.int .u64 0, .string ⟨#[]⟩, .string ⟨#[]⟩, .int .i64 0, .string ⟨#[]⟩]) 5 64 Tryd.underlying65 hti hz0 hz1 hz2 rfl (by decide) (.slice (some ⟨ug, 0, none⟩) i uc) i (entsV (entsI i)) rfl (own_grown5 HL9.out (World.grownBy_alloc w9 _ none)) ⟨w9.heap.size, 0, none⟩ 1 1 [.int .u64 (kk : Int), .string S, .string noughtsS, .int .i64 2, .string P] rfl rfl (World.news_of_block (heap_alloc_at w9 (.cells #[.int .u64 (kk : Int), .string S, .string noughtsS, .int .i64 2, .string P] 52) _ rfl)) (entsV_onecell [⟨kk, S, noughtsS, 2, P⟩]) HI1.out.1 HI1.out.2 (by have h1 := (HL9.out.lt ug rfl); simp; omega) ?_)
                  intro v10 w10 ho10 hg10
                  have HG10 : Hid (w.grownBy w10 none) := grown_row (grownBy_alloc' HG9.out _) hg10 (fun g e => by cases e; have h1 := (HL9.out.lt ug rfl).1; have := HLB.out.1; show w.heap.size ≤ ug; omega)
                  have hoc : w10.ownsRow LB 52 5 v10 (i + 1) (entsV (entsI i ++ [⟨kk, S, noughtsS, 2, P⟩])) := by rw [entsV_append, entsV_one]; exact ho10
                  have hhc := hist_call _ HH4.out.2 (by rw [List.length_append, HL5.out.2]; show i + 1 ≤ 1000; omega) (i + 1) (by rw [List.length_append, HL5.out.2]; rfl) v10 w10 _ hoc (HR.out.grown HG10.out)
                  rw [HH4.out.1] at hhc
                  have HHC := Lib.hid hhc
                  clear hhc hoc ho10 hg10
                  go_wp2_with fail
                  refine HHC.out.mono ?_
                  rintro e w11 ⟨rfl, g11⟩
                  have HG11 := Lib.hid (grownBy_trans HG10.out g11)
                  clear g11
                  go_wp2_with fail
                  go_ret
                  exact ⟨by simp, HG11.out⟩
              case bez_11 =>
                exact AllReady.nil
            case bez_10 =>
              exact AllReady.nil
          case bez_9 =>
            exact AllReady.nil
        case bez_8 =>
          exact AllReady.nil
theorem entryHistories_ints (a b c : Int) (ha : 0 ≤ a ∧ a ≤ 255) (hb : 0 ≤ b ∧ b ≤ 255) (hc : 0 ≤ c ∧ c ≤ 255) (w : World) (hr : ShaReady w) :
    Calls Tryd.prog 6 #[.int .u8 a, .int .u8 b, .int .u8 c] w fun e w' => e = .returned (.bool true) ∧ Below w.heap.size w w' := by
  obtain ⟨a, rfl⟩ := Int.eq_ofNat_of_zero_le ha.1
  obtain ⟨b, rfl⟩ := Int.eq_ofNat_of_zero_le hb.1
  obtain ⟨c, rfl⟩ := Int.eq_ofNat_of_zero_le hc.1
  exact (entryHistories_walk a b c (by omega) (by omega) (by omega) w hr).mono fun _ _ h => ⟨h.1, below_grownBy h.2⟩
end Go.Proofs.YtgaenpbdfelhhaaDoor
