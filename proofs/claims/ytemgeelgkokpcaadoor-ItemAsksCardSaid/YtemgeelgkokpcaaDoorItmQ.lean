/- The walks of item.readList, read, Decode, over bytes of items. -/
import Derived.Test.YtemgeelgkokpcaaDoorItmR
namespace Go.Proofs.YtemgeelgkokpcaaDoor
open Go.RowKit

set_option maxRecDepth 100000 in
set_option maxHeartbeats 3200000 in
theorem readList_of (m : Nat) (IH : ReadOk m) (l : List Tr) (hm : cntTs l ≤ m) (hok : okTs l) (he : errTs l = 0) (h256 : l.length ≤ 256) (d : Nat) (hd1 : 1 ≤ d) (hd : d + (depTs l + 1) ≤ 9) (w : World) (b : Nat) (L : List UInt8) (h : RdAt w b (str (be l.length 2 ++ (encTs l ++ L))) 0) (hl : (encTs l).length + L.length ≤ 999999997) :
    Calls Tryd.prog 48 #[.pointer (some ⟨b, 0, none⟩), .int .i64 d] w fun e w' => ∃ v, e = .returned (.tuple #[v, .int .i64 0]) ∧ ItemAt w' (fun i => w.heap.size ≤ i) v (.list l) ∧ RdAt w' b (str L) 0 ∧ w.grownBy w' (some b) := by
  have hn16 : l.length < 256 ^ 2 := by
    have : (256 : Nat) ^ 2 = 65536 := by decide
    omega
  have HNU := Lib.hid (rok_num l.length 2 (by decide) (by decide) hn16 2 rfl _ h (by rw [List.length_append]; omega))
  have HBL := Lib.hid h.lt
  have HO := Lib.hid (And.intro hm (And.intro hok (And.intro he (And.intro hd hl))))
  have HIH := Lib.hid IH
  have q1 : ¬ (256 : Int) < (l.length : Int) := by omega
  have rd1 : IntKind.i64.wrap ((d : Int) + 1) = ((d + 1 : Nat) : Int) := by rw [IntWalk.i64_in _ (by omega)]; rfl
  have hdd : d ≤ 9 := by omega
  clear hn16 h hm hok he hd hl IH
  obtain ⟨i0, hti, hz0, hz1, hz2⟩ := info_parts infoItm
  go_enter Tryd.func48, Tryd.ntmps48
  go_wp2_with fail
  refine HNU.out.mono ?_
  rintro e w1 ⟨rfl, h1, g1⟩
  have H1 := Lib.hid (And.intro h1 g1)
  clear h1 g1 HNU
  go_wp2_with fail
  refine (broken_ok b _ w1 H1.out.1).mono ?_
  rintro e w2 ⟨rfl, rfl⟩
  go_wp2_with fail
  go_loopw [8, 9, 10, 21] (fun lw _ _ kv wr => ∃ (k : Nat) (lv : Value), lw = lv ∧ k ≤ l.length ∧ kv = .int .u64 k ∧ Hid (RL w b l k L lv wr)) (fun _ _ _ kv _ => l.length - (intOf kv).toNat)
  case atStart =>
    exact ⟨0, _, rfl, Nat.zero_le _, rfl, Lib.hid ⟨⟨[], World.ownsRow_nil _ _ _ _, by rw [List.take_zero]; exact AllAt.nil _ _⟩, by rw [List.drop_zero]; exact H1.out.1, H1.out.2, HBL.out⟩⟩
  case round =>
    clear H1
    obtain ⟨k, lv, rfl, hk, rfl, HR⟩ := hrel
    obtain ⟨la, lc, hlv⟩ := HR.out.form
    subst hlv
    by_cases hlt : k < l.length
    · have d1 : (k : Int) < (l.length : Int) := by omega
      obtain ⟨t, ht⟩ : ∃ t, l[k]? = some t := ⟨_, List.getElem?_eq_getElem hlt⟩
      have hmem : t ∈ l := List.mem_of_getElem? ht
      obtain ⟨vs, hvs, hall⟩ := HR.out.row
      have hrd := HR.out.rd
      have hdl := encTs_drop_len l k
      rw [encTs_drop ht, List.append_assoc] at hrd
      rw [encTs_drop ht, List.length_append] at hdl
      have HRE := Lib.hid (HIH.out t (by have := cntTs_mem hmem; have := HO.out.1; omega) (okTs_mem HO.out.2.1 hmem) (errTs_mem HO.out.2.2.1 hmem) (d + 1) (by omega) (by have := depTs_mem hmem; have := HO.out.2.2.2.1; omega) wr b _ hrd (by rw [List.length_append]; have := HO.out.2.2.2.2; omega))
      have HV := Lib.hid (And.intro hvs hall)
      have HT := Lib.hid ht
      obtain ⟨D1, hD1⟩ : ∃ D1, d + 1 = D1 := ⟨_, rfl⟩
      rw [hD1] at HRE rd1
      clear hrd hvs hall ht hdl hmem hD1
      go_wp2_with fail
      refine HRE.out.mono ?_
      rintro e w3 ⟨v, rfl, hit, hr3, g3⟩
      obtain ⟨ty, u, rfl⟩ := item_iface hit
      have ho3 := own_keepI HV.out.1 g3 (fun y e q => by have := (HV.out.1.lt y e).1; have := HBL.out; have := Option.some.inj q; omega)
      have ga := World.grownBy_alloc w3 (.cells #[.iface ty u] 24) none
      have hoa := own_kept_I ho3 ga
      have hba := heap_alloc_at w3 (.cells #[.iface ty u] 24) _ rfl
      have hk1 : k + 1 ≤ maxLen := by unfold maxLen; omega
      have hk2 : (k + 1) * 16 ≤ 140737488355328 := by omega
      have hbs : w.heap.size ≤ (w3.alloc (.cells #[.iface ty u] 24)).heap.size := by have h1 := HR.out.gr.size; have h2 := g3.size; rw [World.size_alloc]; omega
      have hone : ∀ y ∈ [Value.iface ty u], y.oneCell' = true := fun y hu => by rw [List.mem_singleton.1 hu]; exact item_one hit
      have H3 := Lib.hid (And.intro hit (And.intro hr3 g3))
      have HA := Lib.hid (And.intro hoa (And.intro (World.news_of_block hba) (And.intro hk1 (And.intro hk2 (And.intro hbs hone)))))
      clear hit hr3 g3 ho3 ga hoa hba hk1 hk2 hbs hone
      go_wp2_with (at_builtin; refine wpList_append_lies _ rfl _ _ 51 rfl w.heap.size 24 i0 .nilIface 1 16 Tryd.underlying51 hti hz0 hz1 hz2 rfl (by decide) (.slice la k lc) k vs rfl HA.out.1 ⟨w3.heap.size, 0, none⟩ 1 1 [.iface ty u] rfl rfl HA.out.2.1 HA.out.2.2.2.2.2 (by decide) HA.out.2.2.1 HA.out.2.2.2.1 HA.out.2.2.2.2.1 _ rfl ?_; intro g9 c9 w9 ho9 hg9 hor9 hlt9; have HP := Lib.hid (HR.out.push HT.out HV.out.1 HV.out.2 H3.out.1 H3.out.2.1 H3.out.2.2 hg9 ho9 hor9); clear ho9 hg9 hor9 hlt9)
      go_roundw
      case rel => exact ⟨k + 1, _, rfl, by omega, by first | rfl | go_num, HP⟩
      case measure => simp [intOf] <;> omega
    · have hkn : k = l.length := by omega
      subst hkn
      have d1 : ¬ ((l.length : Nat) : Int) < (l.length : Int) := by omega
      obtain ⟨vs, hvs, hall⟩ := HR.out.row
      rw [List.take_length] at hall
      have hrd := HR.out.rd
      rw [List.drop_length, encTs, List.nil_append] at hrd
      have hlow : wr.ownsRow 0 24 1 (.slice la l.length lc) l.length vs := by
        refine ⟨hvs.1, ?_⟩
        rcases hvs.2 with q | ⟨g, cap, cur, e, hB, r⟩
        · exact .inl q
        · exact .inr ⟨g, cap, cur, e, Nat.zero_le _, r⟩
      have HLI := Lib.hid (ilist_any _ l.length vs l wr hlow hall (by omega) (by have := HO.out.2.2.2.1; omega))
      have HF := Lib.hid (And.intro hrd HR.out.gr)
      clear hvs hall hrd hlow
      go_wp2_with fail
      refine HLI.out.mono ?_
      rintro e w4 ⟨lb, rfl, hit, g4⟩
      have HI := Lib.hid (And.intro (hit.mono (Q := fun i => w.heap.size ≤ i) (fun i p _ => by
        rcases p with p | p
        · exact p.1
        · have := HF.out.2.size; omega)) g4)
      clear hit g4
      go_wp2_with fail
      go_returns
      exact ⟨_, rfl, HI.out.1, HF.out.1.kept HI.out.2 (by simp), grownBy_trans HF.out.2 (grownBy_any HI.out.2 _)⟩
theorem i64_u64 (n : Int) (h : -9223372036854775808 ≤ n ∧ n ≤ 9223372036854775807) : IntKind.i64.wrap ((u64 n : Nat) : Int) = n := by
  unfold u64
  simp only [IntKind.wrap, IntKind.bits, IntKind.signed, IntKind.min, IntKind.max]
  simp
  omega
set_option maxRecDepth 100000 in
set_option maxHeartbeats 3200000 in
theorem read_ok : ∀ m, ReadOk m
  | 0 => by
    intro t h
    have : 1 ≤ cntT t := by cases t <;> rw [cntT] <;> omega
    omega
  | m + 1 => by
    intro t hm hok he d hd1 hd w b L h hl
    have IH := read_ok m
    have q8 : ¬ (8 : Int) < (d : Int) := by have := depT_pos t; omega
    have HBL := Lib.hid h.lt
    cases t with
    | num n =>
      rw [encT] at h
      rw [encT, List.length_cons, be_length] at hl
      rw [okT] at hok
      have hw := i64_u64 n hok
      have h1 : RdAt w b (str (be 1 1 ++ (be (u64 n) 8 ++ L))) 0 := by rw [be_one 1 (by decide)]; exact h
      have HN1 := Lib.hid (rok_num 1 1 (by decide) (by decide) (by decide) 1 rfl _ h1 (by rw [List.length_append, be_length]; omega))
      have HN2 := Lib.hid (fun w' (k : RdAt w' b (str (be (u64 n) 8 ++ L)) 0) => rok_num (u64 n) 8 (by decide) (by decide) (u64_lt n) 8 rfl L k (by omega))
      generalize u64 n = U at *
      clear h h1 hl hm he hd IH
      go_enter Tryd.func28, Tryd.ntmps28
      go_wp2_with fail
      refine HN1.out.mono ?_
      rintro e w1 ⟨rfl, r1, g1⟩
      have H1 := Lib.hid (And.intro r1 g1)
      clear r1 g1
      go_wp2_with fail
      refine (broken_ok b _ w1 H1.out.1).mono ?_
      rintro e w2 ⟨rfl, rfl⟩
      go_wp2_with fail
      refine (HN2.out _ H1.out.1).mono ?_
      rintro e w3 ⟨rfl, r3, g3⟩
      have H3 := Lib.hid (And.intro r3 (grownBy_trans H1.out.2 g3))
      clear r3 g3
      go_wp2_with fail
      refine (inum_any n w3).mono ?_
      rintro e w4 ⟨rfl, rfl⟩
      go_wp2_with fail
      refine (broken_ok b _ w3 H3.out.1).mono ?_
      rintro e w4 ⟨rfl, rfl⟩
      go_wp2_with fail
      go_returns
      exact ⟨vNum n, rfl, by rw [ItemAt], H3.out.1, H3.out.2⟩
    | text s =>
      rw [encT] at h
      have hs : s.size ≤ 4096 := by
        rw [errT] at he
        by_cases q : 4096 < s.size
        · rw [if_pos q] at he; omega
        · omega
      have hl2 : L.length + s.size ≤ 999999997 := by
        have hz : s.data.toList.length = s.size := by rw [Array.length_toList]; rfl
        rw [encT, List.length_cons, List.length_append, be_length, hz] at hl
        omega
      have hz : s.data.toList.length = s.size := by rw [Array.length_toList]; rfl
      have h1 : RdAt w b (str (be 2 1 ++ ((be s.size 2 ++ s.data.toList) ++ L))) 0 := by rw [be_one 2 (by decide)]; exact h
      have HN1 := Lib.hid (rok_num 2 1 (by decide) (by decide) (by decide) 1 rfl _ h1 (by rw [List.length_append, List.length_append, be_length, hz]; omega))
      have HN2 := Lib.hid (fun w' (k : RdAt w' b (str ((be s.size 2 ++ s.data.toList) ++ L)) 0) => rok_text s hs L k (by omega))
      clear h h1 hl hl2 hm he hd IH hok hs
      go_enter Tryd.func28, Tryd.ntmps28
      go_wp2_with fail
      refine HN1.out.mono ?_
      rintro e w1 ⟨rfl, r1, g1⟩
      have H1 := Lib.hid (And.intro r1 g1)
      clear r1 g1
      go_wp2_with fail
      refine (broken_ok b _ w1 H1.out.1).mono ?_
      rintro e w2 ⟨rfl, rfl⟩
      go_wp2_with fail
      refine (HN2.out _ H1.out.1).mono ?_
      rintro e w3 ⟨rfl, r3, g3⟩
      have H3 := Lib.hid (And.intro r3 (grownBy_trans H1.out.2 g3))
      clear r3 g3
      go_wp2_with fail
      refine (itext_any s w3).mono ?_
      rintro e w4 ⟨rfl, rfl⟩
      go_wp2_with fail
      refine (broken_ok b _ w3 H3.out.1).mono ?_
      rintro e w4 ⟨rfl, rfl⟩
      go_wp2_with fail
      go_returns
      exact ⟨vText s, rfl, by rw [ItemAt], H3.out.1, H3.out.2⟩
    | list l =>
      rw [encT] at h
      rw [cntT] at hm
      rw [okT] at hok
      rw [depT] at hd
      have h256 : l.length ≤ 256 ∧ errTs l = 0 := by
        rw [errT] at he
        by_cases q : 256 < l.length
        · rw [if_pos q] at he; omega
        · rw [if_neg q] at he; exact ⟨by omega, he⟩
      have hl2 : (encTs l).length + L.length ≤ 999999990 ∨ True := Or.inr trivial
      have hl3 : 3 + (encTs l).length + L.length ≤ 1000000000 := by
        rw [encT, List.length_cons, List.length_append, be_length] at hl
        omega
      have h1 : RdAt w b (str (be 3 1 ++ (be l.length 2 ++ (encTs l ++ L)))) 0 := by
        rw [be_one 3 (by decide)]
        rw [List.cons_append, List.append_assoc] at h
        exact h
      have HN1 := Lib.hid (rok_num 3 1 (by decide) (by decide) (by decide) 1 rfl _ h1 (by rw [List.length_append, List.length_append, be_length]; omega))
      have HN2 := Lib.hid (fun w' (k : RdAt w' b (str (be l.length 2 ++ (encTs l ++ L))) 0) => readList_of m IH l (by omega) hok.2 h256.2 h256.1 d hd1 hd w' b L k (by omega))
      clear h h1 hl hl3 hl2 hm he hd IH hok h256
      go_enter Tryd.func28, Tryd.ntmps28
      go_wp2_with fail
      refine HN1.out.mono ?_
      rintro e w1 ⟨rfl, r1, g1⟩
      have H1 := Lib.hid (And.intro r1 g1)
      clear r1 g1
      go_wp2_with fail
      refine (broken_ok b _ w1 H1.out.1).mono ?_
      rintro e w2 ⟨rfl, rfl⟩
      go_wp2_with fail
      refine (HN2.out _ H1.out.1).mono ?_
      rintro e w3 ⟨v, rfl, hit, r3, g3⟩
      have H3 := Lib.hid (And.intro (hit.mono (Q := fun i => w.heap.size ≤ i) (fun i p _ => Nat.le_trans H1.out.2.size p)) (And.intro r3 (grownBy_trans H1.out.2 g3)))
      clear hit r3 g3
      go_wp2_with fail
      go_returns
      exact ⟨_, rfl, H3.out.1, H3.out.2.1, H3.out.2.2⟩
set_option maxRecDepth 100000 in
set_option maxHeartbeats 1600000 in
theorem idecode_ok (t : Tr) (hok : okT t) (he : errT t = 0) (hd : depT t ≤ 8) (hl : (encT t).length ≤ 1000000000) (w : World) :
    Calls Tryd.prog 11 #[.string (str (encT t))] w fun e w' => ∃ v, e = .returned (.tuple #[v, .int .i64 0]) ∧ ItemAt w' (fun i => w.heap.size ≤ i) v t ∧ w.grownBy w' none := by
  have HRE := Lib.hid (fun w' b (h : RdAt w' b (str (encT t ++ [])) 0) => read_ok (cntT t) t (Nat.le_refl _) hok he 1 (Nat.le_refl _) (by omega) w' b [] h (by simpa using hl))
  have HEX := Lib.hid (show str (encT t) = str (encT t ++ []) by rw [List.append_nil])
  obtain ⟨S, hS⟩ : ∃ S, str (encT t) = S := ⟨_, rfl⟩
  rw [hS] at HEX ⊢
  clear hS hok he hd hl
  go_enter Tryd.func11, Tryd.ntmps11
  go_wp2_with fail
  refine (read_any S w).mono ?_
  rintro e w1 ⟨rfl, r1, g1⟩
  obtain ⟨b, hb⟩ : ∃ b, w.heap.size = b := ⟨_, rfl⟩
  rw [hb] at r1 ⊢
  have H1 := Lib.hid (And.intro r1 (And.intro g1 hb))
  have HR1 := Lib.hid (HRE.out w1 b (by rw [← HEX.out]; exact r1))
  clear r1 g1 hb HRE
  go_wp2_with fail
  refine HR1.out.mono ?_
  rintro e w2 ⟨v, rfl, hit, r2, g2⟩
  have hg2 : w.grownBy w2 none := ⟨g2.os.trans H1.out.2.1.os, g2.tape.trans H1.out.2.1.tape, g2.output.trans H1.out.2.1.output, Nat.le_trans H1.out.2.1.size g2.size, fun i hi _ => (g2.block i (Nat.lt_of_lt_of_le hi H1.out.2.1.size) (fun e => by have := Option.some.inj e; have := H1.out.2.2; omega)).trans (H1.out.2.1.block i hi (by simp))⟩
  have H2 := Lib.hid (And.intro (hit.mono (Q := fun i => b ≤ i) (fun i p _ => by have := H1.out.2.1.size; have := H1.out.2.2; omega)) (And.intro hg2 r2))
  have HE := Lib.hid (end_any w2 (some ⟨b, 0, none⟩) (some ⟨str [], 0⟩) ⟨b, rfl, r2⟩)
  have hdn : ((some (⟨str [], 0⟩ : RSt)).map fun s => s.done).getD 1 = 0 := by decide
  rw [hdn] at HE
  clear hit r2 g2 hg2 hdn
  go_wp2_with fail
  refine HE.out.mono ?_
  rintro e w3 ⟨rfl, rfl⟩
  go_wp2_with fail
  go_returns
  exact ⟨v, rfl, by have := H2.out.1; rw [← H1.out.2.2] at this; exact this, H2.out.2.1⟩
end Go.Proofs.YtemgeelgkokpcaaDoor
