/- The walk of the document's own Encode (plumbobref04). -/
import Derived.Test.YtemgeelgkokpcaaDoorItmK
import Derived.Test.YtemgeelgkokpcaaDoorOctetF
import Derived.Deep.RegionHeld3
namespace Go.Proofs.YtemgeelgkokpcaaDoor
open Go.RowKit

theorem nodV_at : ∀ (L : List NodeR) (i j : Nat) (h : i < L.length), j < 4 → (nodV L)[i * 4 + j]? = (L[i]).cells[j]?
  | x :: r, 0, j, _, hj => by
    rw [show nodV (x :: r) = x.cells ++ nodV r from rfl, Nat.zero_mul, Nat.zero_add, List.getElem?_append_left (show j < 4 from hj)]
    rfl
  | x :: r, i + 1, j, h, hj => by
    rw [show nodV (x :: r) = x.cells ++ nodV r from rfl, List.getElem?_append_right (show 4 ≤ (i + 1) * 4 + j by omega), show (i + 1) * 4 + j - x.cells.length = i * 4 + j by show (i + 1) * 4 + j - 4 = _; omega, nodV_at r i j (by simpa using h) hj]
    rfl
theorem nod_cell {w : World} {B g c N : Nat} {L : List NodeR} (h : w.ownsRow B 44 4 (.slice (some ⟨g, 0, none⟩) N c) N (nodV L)) (p : Nat) (x : NodeR) (hx : L[p]? = some x) :
    w.cell? ⟨g, p * 4, none⟩ = some (.int .i64 x.k) ∧ w.cell? ⟨g, p * 4 + 1, none⟩ = some (.int .i64 x.n) ∧ w.cell? ⟨g, p * 4 + 2, none⟩ = some (.string x.t) ∧ w.cell? ⟨g, p * 4 + 3, none⟩ = some (.int .i64 x.c) := by
  obtain ⟨hp, rfl⟩ := List.getElem?_eq_some_iff.1 hx
  have hN : L.length = N := by have := h.1; rw [nodV_len] at this; omega
  have e := fun j hj => (h.cellAt (p * 4 + j) (by omega)).trans (nodV_at L p j hp hj)
  exact ⟨e 0 (by decide), e 1 (by decide), e 2 (by decide), e 3 (by decide)⟩
theorem refNumK (n k : Nat) (K : Int) (hK : (k : Int) = K) (h1 : 1 ≤ k) (h8 : k ≤ 8) (hn : n < 256 ^ k) (hn2 : n ≤ 18446744073709551615) (w : World) :
    Calls Tryd.prog 23 #[.int .u64 n, .int .i64 K] w fun e w' => e = .returned (.string (str (be n k))) ∧ w.grownBy w' none := by
  subst hK
  have e : refNum n (k : Int) = be n k := by unfold refNum; rw [if_pos ⟨by omega, by omega, by rw [Int.toNat_natCast]; exact hn⟩, Int.toNat_natCast]
  have := refNum_any n hn2 (k : Int) (by omega) w
  rwa [e] at this
theorem cells4N {w : World} {b : Nat} {t : TypeId} {a0 a1 a2 a3 : Value} (h : w.heap[b]? = some (.cells #[a0, a1, a2, a3] t (0, 0))) : w.cell? ⟨b, 0, none⟩ = some a0 ∧ w.cell? ⟨b, 1, none⟩ = some a1 ∧ w.cell? ⟨b, 2, none⟩ = some a2 ∧ w.cell? ⟨b, 3, none⟩ = some a3 := by
  refine ⟨?_, ?_, ?_, ?_⟩ <;> rw [cell_of h] <;> rfl
theorem smTs_mem : ∀ {l : List Tr} {t : Tr}, smTs l → t ∈ l → smT t
  | t :: r, x, h, hx => by
    rw [smTs] at h
    rcases List.mem_cons.1 hx with rfl | q
    · exact h.1
    · exact smTs_mem h.2 q
/-- what the document's Encode does with the nodes of an item, for all items of so many nodes -/
def EncOk (m : Nat) : Prop := ∀ (t : Tr), cntT t ≤ m → smT t → ∀ (NL pre post : List NodeR), NL = pre ++ (nodT t ++ post) → NL.length ≤ 256 → ∀ (w : World) (B g c : Nat), w.ownsRow B 44 4 (.slice (some ⟨g, 0, none⟩) NL.length c) NL.length (nodV NL) →
    Calls Tryd.prog 9 #[.slice (some ⟨g, 0, none⟩) NL.length c, .int .i64 pre.length] w fun e w' => e = .returned (.tuple #[.string (str (encT t)), .int .i64 (pre.length + cntT t : Nat)]) ∧ w.grownBy w' none
set_option maxRecDepth 100000 in
set_option maxHeartbeats 3200000 in
theorem enc_step (m : Nat) (IH : EncOk m) : EncOk (m + 1) := by
  intro t hm hs NL pre post hN h256 w B g c ho
  obtain ⟨b, hb⟩ : ∃ b, w.heap.size = b := ⟨_, rfl⟩
  cases t with
  | num n =>
    rw [nodT] at hN
    have hx : NL[pre.length]? = some ⟨1, n, ⟨#[]⟩, 0⟩ := by rw [hN, List.getElem?_append_right (Nat.le_refl _), Nat.sub_self]; rfl
    obtain ⟨k0, k1, k2, k3⟩ := nod_cell ho _ _ hx
    have hpl : pre.length < NL.length := (List.getElem?_eq_some_iff.1 hx).1
    generalize pre.length = p at *
    generalize NL.length = N at *
    have q1 : (p : Int) < (N : Int) := by omega
    have q0 : (0 : Int) ≤ (p : Int) := by omega
    have rd1 : IntKind.i64.wrap ((p : Int) + 1) = ((p + 1 : Nat) : Int) := by rw [IntWalk.i64_in _ (by omega)]; rfl
    have cw := u64_wrap n
    have hul := u64_lt n
    rw [encT, cntT]
    obtain ⟨U, hU⟩ : ∃ U, u64 n = U := ⟨_, rfl⟩
    rw [hU] at cw hul ⊢
    have hgW := World.grownBy_alloc w (.cells #[.int .i64 1, .int .i64 n, .string ⟨#[]⟩, .int .i64 0] 44) none
    have hbW := heap_alloc_at w (.cells #[.int .i64 1, .int .i64 n, .string ⟨#[]⟩, .int .i64 0] 44) b hb
    obtain ⟨y0, y1, y2, y3⟩ := cells4N hbW
    have HN1 := Lib.hid (fun w' => refNumK U 8 8 rfl (by decide) (by decide) hul (by have : (256 : Nat) ^ 8 = 18446744073709551616 := by decide
                                                                                     omega) w')
    have hsz : (⟨#[1]⟩ : ByteArray).size + (str (be U 8)).size ≤ 9223372036854775807 := by rw [str_size, be_length]; show 1 + 8 ≤ _; omega
    have hcat : (⟨#[1]⟩ : ByteArray) ++ str (be U 8) = str (1 :: be U 8) := str_append [1] _
    clear hN hx hpl ho IH hm hs hU
    go_enter Tryd.func9, Tryd.ntmps9
    go_upto_region 2 with fail
    obtain ⟨W, hW⟩ : ∃ W, w.alloc (.cells #[.int .i64 1, .int .i64 n, .string ⟨#[]⟩, .int .i64 0] 44) = W := ⟨_, rfl⟩
    rw [hW] at hgW hbW y0 y1 y2 y3
    rw [hW]
    have HGW := Lib.hid hgW
    clear k0 k1 k2 k3 hgW hbW hW hul
    go_wp2_with fail
    refine (HN1.out W).mono ?_
    rintro e w1 ⟨rfl, g1⟩
    have HG1 := Lib.hid (grownBy_trans HGW.out g1)
    clear g1
    go_wp2_with fail
    go_returns
    exact ⟨rfl, HG1.out⟩
  | text s =>
    rw [nodT] at hN
    have hx : NL[pre.length]? = some ⟨2, 0, s, 0⟩ := by rw [hN, List.getElem?_append_right (Nat.le_refl _), Nat.sub_self]; rfl
    obtain ⟨k0, k1, k2, k3⟩ := nod_cell ho _ _ hx
    have hpl : pre.length < NL.length := (List.getElem?_eq_some_iff.1 hx).1
    have hgW := World.grownBy_alloc w (.cells #[.int .i64 2, .int .i64 0, .string s, .int .i64 0] 44) none
    have hbW := heap_alloc_at w (.cells #[.int .i64 2, .int .i64 0, .string s, .int .i64 0] 44) b hb
    obtain ⟨y0, y1, y2, y3⟩ := cells4N hbW
    rw [smT] at hs
    generalize pre.length = p at *
    generalize NL.length = N at *
    have q1 : (p : Int) < (N : Int) := by omega
    have q0 : (0 : Int) ≤ (p : Int) := by omega
    have rd1 : IntKind.i64.wrap ((p : Int) + 1) = ((p + 1 : Nat) : Int) := by rw [IntWalk.i64_in _ (by omega)]; rfl
    have cw : IntKind.u64.wrap (s.size : Int) = (s.size : Int) := wrap_u64 s.size (by omega)
    have hz : s.data.toList.length = s.size := by rw [Array.length_toList]; rfl
    rw [encT, cntT]
    have h16 : s.size < 256 ^ 2 := by
      have : (256 : Nat) ^ 2 = 65536 := by decide
      omega
    have HN1 := Lib.hid (fun w' => refNumK s.size 2 2 rfl (by decide) (by decide) h16 (by omega) w')
    have hsz : (⟨#[2]⟩ : ByteArray).size + (str (be s.size 2)).size ≤ 9223372036854775807 := by rw [str_size, be_length]; show 1 + 2 ≤ _; omega
    have hcat : (⟨#[2]⟩ : ByteArray) ++ str (be s.size 2) = str (2 :: be s.size 2) := str_append [2] _
    have hsz2 : (str (2 :: be s.size 2)).size + s.size ≤ 9223372036854775807 := by rw [str_size, List.length_cons, be_length]; omega
    have hcat2 : str (2 :: be s.size 2) ++ s = str (2 :: (be s.size 2 ++ s.data.toList)) := by
      have h1 : s = str s.data.toList := by apply ByteArray.ext; simp [str]
      have h2 : str (2 :: be s.size 2) ++ str s.data.toList = str (2 :: (be s.size 2 ++ s.data.toList)) := str_append (2 :: be s.size 2) _
      rwa [← h1] at h2
    have hb2 : (str (be s.size 2)).size = 2 := by rw [str_size, be_length]
    have hc2 : (str (2 :: be s.size 2)).size = 3 := by rw [str_size, List.length_cons, be_length]
    have hsz3 : ¬ 9223372036854775807 < 3 + s.size := by omega
    generalize str (2 :: (be s.size 2 ++ s.data.toList)) = D2 at *
    generalize str (2 :: be s.size 2) = C2 at *
    generalize str (be s.size 2) = B2 at *
    clear hN hx hpl ho IH hm hz h16
    go_enter Tryd.func9, Tryd.ntmps9
    go_upto_region 2 with fail
    obtain ⟨W, hW⟩ : ∃ W, w.alloc (.cells #[.int .i64 2, .int .i64 0, .string s, .int .i64 0] 44) = W := ⟨_, rfl⟩
    rw [hW] at hgW hbW y0 y1 y2 y3
    rw [hW]
    have HGW := Lib.hid hgW
    clear k0 k1 k2 k3 hgW hbW hW
    go_upto_region 6 with fail
    go_region_held3 (fun w' => W.grownBy w' none ∧ w'.cell? ⟨b, 2, none⟩ = some (.string s)) (first | exact ck | exact ⟨grownBy_drew (World.grownBy.refl _ _), y2⟩)
      (first
        | (go_at_call 23; (with_reducible refine (HN1.out _).mono ?_); rintro e w1 ⟨rfl, g1⟩; have ck := And.intro (grownBy_trans (grownBy_drew (World.grownBy.refl W none)) g1) (cell_grown g1 y2)))
    have HG1 := Lib.hid (grownBy_trans HGW.out ck.1)
    clear ck
    go_wp2_with fail
    go_returns
    exact ⟨rfl, HG1.out⟩
  | list l =>
    rw [nodT] at hN
    have hs' : smTs l := by rw [smT] at hs; exact hs
    have hx : NL[pre.length]? = some ⟨3, 0, ⟨#[]⟩, l.length⟩ := by rw [hN, List.getElem?_append_right (Nat.le_refl _), Nat.sub_self]; rfl
    obtain ⟨k0, k1, k2, k3⟩ := nod_cell ho _ _ hx
    have hpl : pre.length < NL.length := (List.getElem?_eq_some_iff.1 hx).1
    have hgW := World.grownBy_alloc w (.cells #[.int .i64 3, .int .i64 0, .string ⟨#[]⟩, .int .i64 l.length] 44) none
    have hbW := heap_alloc_at w (.cells #[.int .i64 3, .int .i64 0, .string ⟨#[]⟩, .int .i64 l.length] 44) b hb
    obtain ⟨y0, y1, y2, y3⟩ := cells4N hbW
    have hll := cntTs_len l
    have hNl : NL.length = pre.length + (1 + cntTs l + post.length) := by rw [hN, List.length_append, List.length_append, List.length_cons, nodTs_len]; omega
    have hl16 : l.length < 256 ^ 2 := by
      have : (256 : Nat) ^ 2 = 65536 := by decide
      omega
    have HIH : Hid (∀ (k : Nat) (t : Tr), l[k]? = some t → ∀ w', w.grownBy w' none → Calls Tryd.prog 9 #[.slice (some ⟨g, 0, none⟩) NL.length c, .int .i64 (pre.length + 1 + cntTs (l.take k) : Nat)] w' fun e w'' => e = .returned (.tuple #[.string (str (encT t)), .int .i64 (pre.length + 1 + cntTs (l.take (k + 1)) : Nat)]) ∧ w'.grownBy w'' none) := Lib.hid (fun k t ht w' gw => by
      have hmem := List.mem_of_getElem? ht
      have h1 := cntTs_mem hmem
      rw [cntT] at hm
      have hsp : l = l.take k ++ (t :: l.drop (k + 1)) := by
        obtain ⟨hk, he⟩ := List.getElem?_eq_some_iff.1 ht
        rw [← he, List.getElem_cons_drop, List.take_append_drop]
      have e1 : NL = (pre ++ (⟨3, 0, ⟨#[]⟩, l.length⟩ :: nodTs (l.take k))) ++ (nodT t ++ (nodTs (l.drop (k + 1)) ++ post)) := by
        rw [hN]
        have e2 : nodTs l = nodTs (l.take k) ++ (nodT t ++ nodTs (l.drop (k + 1))) := by
          conv => lhs; rw [hsp]
          rw [nodTs_append, nodTs]
        rw [e2]
        simp
      have h2 := IH t (by omega) (smTs_mem hs' hmem) NL _ _ e1 h256 w' B g c (own_kept_I ho gw)
      rw [List.length_append, List.length_cons, nodTs_len] at h2
      have e3 : cntTs (l.take (k + 1)) = cntTs (l.take k) + cntT t := by rw [List.take_add_one, ht, Option.toList_some, cntTs_append, cntTs, cntTs, Nat.add_zero]
      rw [e3]
      rw [show pre.length + (cntTs (l.take k) + 1) = pre.length + 1 + cntTs (l.take k) by omega] at h2
      rw [show pre.length + 1 + cntTs (l.take k) + cntT t = pre.length + 1 + (cntTs (l.take k) + cntT t) by omega] at h2
      exact h2)
    have HSL := Lib.hid (sms_facts l hs' (by omega)).2.2.1
    have HLL := Lib.hid (And.intro hll (And.intro hNl h256))
    generalize pre.length = p at *
    generalize NL.length = N at *
    have q1 : (p : Int) < (N : Int) := by omega
    have q0 : (0 : Int) ≤ (p : Int) := by omega
    have rd1 : IntKind.i64.wrap ((p : Int) + 1) = ((p + 1 : Nat) : Int) := by rw [IntWalk.i64_in _ (by omega)]; rfl
    have cw : IntKind.u64.wrap (l.length : Int) = (l.length : Int) := wrap_u64 l.length (by omega)
    rw [encT, cntT]
    have HN1 := Lib.hid (fun w' => refNumK l.length 2 2 rfl (by decide) (by decide) hl16 (by omega) w')
    have hsz : (⟨#[3]⟩ : ByteArray).size + (str (be l.length 2)).size ≤ 9223372036854775807 := by rw [str_size, be_length]; show 1 + 2 ≤ _; omega
    have hcat : (⟨#[3]⟩ : ByteArray) ++ str (be l.length 2) = str (3 :: be l.length 2) := str_append [3] _
    clear hN hx hpl ho IH hm hs hs' hll hNl hl16 h256
    go_enter Tryd.func9, Tryd.ntmps9
    go_upto_region 2 with fail
    obtain ⟨W, hW⟩ : ∃ W, w.alloc (.cells #[.int .i64 3, .int .i64 0, .string ⟨#[]⟩, .int .i64 l.length] 44) = W := ⟨_, rfl⟩
    rw [hW] at hgW hbW y0 y1 y2 y3
    rw [hW]
    have HGW := Lib.hid hgW
    clear k0 k1 k2 k3 hgW hbW hW
    go_wp2_with fail
    refine (HN1.out W).mono ?_
    rintro e w1 ⟨rfl, g1⟩
    have y3 := cell_grown g1 y3
    have HG1 := Lib.hid (And.intro (grownBy_trans HGW.out g1) g1)
    clear g1 y0 y1 y2 HN1 hsz cw
    go_upto_if 46 with fail
    go_cut [7] (fun sv wy => sv = .string (str (3 :: be l.length 2)) ∧ w1 = wy)
    case first =>
      by_cases h0 : l.length = 0
      · have b0 : ((l.length : Int) == 0) = true := by simp [h0]
        have hse : (⟨#[3, 0, 0]⟩ : ByteArray) = str (3 :: be l.length 2) := by rw [h0]; rfl
        go_wp2_with fail
        go_meet
        case rel => exact ⟨by rw [hse], rfl⟩
      · have b0 : ((l.length : Int) == 0) = false := by simp; exact fun q => h0 (by rw [q]; rfl)
        go_wp2_with fail
        go_meet
        case rel => exact ⟨rfl, rfl⟩
    case rest =>
      obtain ⟨rfl, rfl⟩ := hcut
      have Y3 := Lib.hid y3
      clear y3 hcat
      go_wp2_with fail
      go_loopw [1, 7, 8, 9, 10] (fun pv sv iv _ _ wr => ∃ k : Nat, k ≤ l.length ∧ iv = .int .i64 k ∧ pv = .int .i64 (p + 1 + cntTs (l.take k) : Nat) ∧ sv = .string (str (3 :: (be l.length 2 ++ encTs (l.take k)))) ∧ Hid (w.grownBy wr none ∧ w1.grownBy wr none)) (fun _ _ iv _ _ _ => l.length - (intOf iv).toNat)
      case atStart => exact ⟨0, Nat.zero_le _, rfl, by rw [List.take_zero, cntTs]; rfl, by rw [List.take_zero, encTs, List.append_nil], Lib.hid ⟨HG1.out.1, World.grownBy.refl _ _⟩⟩
      case round =>
        obtain ⟨k, hk, rfl, rfl, rfl, HG⟩ := hrel
        have y3 := cell_grown HG.out.2 Y3.out
        by_cases hlt : k < l.length
        · have d1 : (k : Int) < (l.length : Int) := by omega
          obtain ⟨t, ht⟩ : ∃ t, l[k]? = some t := ⟨_, List.getElem?_eq_getElem hlt⟩
          have HC := Lib.hid (HIH.out k t ht wr HG.out.1)
          have htl := encTs_take_len ht
          have hsl := HSL.out
          have hlq := HLL.out
          have e1 : str (3 :: (be l.length 2 ++ encTs (l.take k))) ++ str (encT t) = str (3 :: (be l.length 2 ++ encTs (l.take (k + 1)))) := by
            rw [encTs_take ht]
            have := str_append (3 :: (be l.length 2 ++ encTs (l.take k))) (encT t)
            rw [this]
            congr 1 <;> simp
          have hz : (str (3 :: (be l.length 2 ++ encTs (l.take k)))).size + (str (encT t)).size ≤ 9223372036854775807 := by
            rw [str_size, str_size, List.length_cons, List.length_append, be_length]
            omega
          have rk : IntKind.i64.wrap ((k : Int) + 1) = ((k + 1 : Nat) : Int) := by rw [IntWalk.i64_in _ (by omega)]; rfl
          clear htl hsl hlq
          generalize str (3 :: (be l.length 2 ++ encTs (l.take k))) = S1 at *
          obtain ⟨S2, hS2⟩ : ∃ S2, str (3 :: (be l.length 2 ++ encTs (l.take (k + 1)))) = S2 := ⟨_, rfl⟩
          rw [hS2] at e1
          have HS2 := Lib.hid hS2
          clear hS2 ht
          generalize str (encT t) = S3 at *
          go_wp2_with fail
          refine HC.out.mono ?_
          rintro e w5 ⟨rfl, g5⟩
          have y3 := cell_grown g5 y3
          have HG5 := Lib.hid (And.intro (grownBy_trans HG.out.1 g5) (grownBy_trans HG.out.2 g5))
          clear g5 HC
          go_wp2_with fail
          go_roundw
          case rel => exact ⟨k + 1, hlt, by first | rfl | go_num, rfl, by rw [HS2.out], HG5⟩
          case measure => simp [intOf] <;> omega
        · have hkl : k = l.length := by omega
          subst hkl
          have d1 : ¬ ((l.length : Nat) : Int) < (l.length : Int) := by omega
          rw [List.take_length]
          go_wp2_with fail
          go_returns
          have e9 : ((p : Int) + 1 + (cntTs l : Int)) = ((p + (cntTs l + 1) : Nat) : Int) := by omega
          exact ⟨congrArg (fun z => Ending.returned (.tuple #[.string (str (3 :: (be l.length 2 ++ encTs l))), .int .i64 z])) e9, HG.out.1⟩
theorem enc_ok : ∀ m, EncOk m
  | 0 => by
    intro t h
    have := cntT_pos t
    omega
  | m + 1 => enc_step m (enc_ok m)
theorem refEnc_any (t : Tr) (hs : smT t) (h256 : cntT t ≤ 256) (w : World) (B : Nat) (nv : Value) (ho : w.ownsRow B 44 4 nv (nodT t).length (nodV (nodT t))) :
    Calls Tryd.prog 9 #[nv, .int .i64 0] w fun e w' => ∃ k : Nat, e = .returned (.tuple #[.string (str (encT t)), .int .i64 k]) ∧ w.grownBy w' none := by
  rcases own_formI ho with ⟨_, h0⟩ | ⟨g, c, rfl⟩
  · have := cntT_pos t
    rw [nodT_len] at h0
    omega
  · refine (enc_ok (cntT t) t (Nat.le_refl _) hs (nodT t) [] [] (by simp) (by rw [nodT_len]; exact h256) w B g c ho).mono ?_
    rintro e w' ⟨rfl, g1⟩
    exact ⟨_, rfl, g1⟩
end Go.Proofs.YtemgeelgkokpcaaDoor
