/- The walk of label.Parts. -/
import Derived.Test.YtemndmhdlgfajaaGreatDoorPolicyCodesB5
import Derived.WalkSmall
namespace Go.Proofs.YtemndmhdlgfajaaGreatDoor
open Go.RowKit Go.Lib

/-- what stands between the separators, the bytes since the last one being 'cur' -/
def partsNL : Nat → List UInt8 → List UInt8 → List (List UInt8)
  | 0, cur, _ => [cur]
  | n + 1, cur, l => if l = [] then [cur] else if sepI ((decodeL l).1 : Int) = true then cur :: partsNL n [] (l.drop (decodeL l).2) else partsNL n (cur ++ l.take (decodeL l).2) (l.drop (decodeL l).2)
def parts (cur l : List UInt8) : List (List UInt8) := partsNL l.length cur l

theorem partsN_more : ∀ (n m : Nat) (cur l : List UInt8), l.length ≤ n → l.length ≤ m → partsNL n cur l = partsNL m cur l
  | 0, 0, _, _, _, _ => rfl
  | 0, m + 1, cur, l, h, _ => by
    have : l = [] := List.eq_nil_of_length_eq_zero (by omega)
    simp [partsNL, this]
  | n + 1, 0, cur, l, _, h => by
    have : l = [] := List.eq_nil_of_length_eq_zero (by omega)
    simp [partsNL, this]
  | n + 1, m + 1, cur, l, h1, h2 => by
    unfold partsNL
    by_cases hl : l = []
    · simp [hl]
    · rw [if_neg hl, if_neg hl]
      have hw := decodeL_width l
      have hp : 0 < l.length := List.length_pos_iff.2 hl
      rw [partsN_more n m [] (l.drop (decodeL l).2) (by simp; omega) (by simp; omega), partsN_more n m (cur ++ l.take (decodeL l).2) (l.drop (decodeL l).2) (by simp; omega) (by simp; omega)]
theorem parts_nil (cur : List UInt8) : parts cur [] = [cur] := rfl
theorem parts_step (cur l : List UInt8) (h : l ≠ []) : parts cur l = if sepI ((decodeL l).1 : Int) = true then cur :: parts [] (l.drop (decodeL l).2) else parts (cur ++ l.take (decodeL l).2) (l.drop (decodeL l).2) := by
  have hp : 0 < l.length := List.length_pos_iff.2 h
  have hw := decodeL_width l
  obtain ⟨n, hn⟩ : ∃ n, l.length = n + 1 := ⟨l.length - 1, by omega⟩
  unfold parts
  rw [hn]
  conv => lhs; unfold partsNL
  rw [if_neg h, partsN_more n (l.drop (decodeL l).2).length _ _ (by simp; omega) (Nat.le_refl _), partsN_more n (l.drop (decodeL l).2).length _ _ (by simp; omega) (Nat.le_refl _)]

/-- a separator is one byte -/
theorem sep_one (l : List UInt8) (h : sepI ((decodeL l).1 : Int) = true) (hne : l ≠ []) : (decodeL l).2 = 1 := by
  have hr : (decodeL l).1 < 128 := by
    unfold sepI at h
    simp at h
    omega
  rw [decodeL_N] at hr ⊢
  unfold decodeN at hr ⊢
  repeat' split at hr
  all_goals simp_all
  all_goals omega

/-- texts as cells -/
def textCells (l : List (List UInt8)) : List Value := l.map fun x => .string ⟨x.toArray⟩

theorem infoText : (Tryz.prog.info? 9).map (fun i => (i.zero, i.size, i.bytes)) = some (some (.string ⟨#[]⟩), 1, 16) := by kernel_rfl

theorem textCells_snoc (l : List (List UInt8)) (x : List UInt8) : textCells (l ++ [x]) = textCells l ++ [.string ⟨x.toArray⟩] := by simp [textCells]
theorem textCells_length (l : List (List UInt8)) : (textCells l).length = l.length := by simp [textCells]
theorem extract_str (s : ByteArray) (a b : Nat) : s.extract a b = ⟨((s.data.toList.drop a).take (b - a)).toArray⟩ := extract_eq s a b

theorem ownsRow_base {w : World} {B B' : Nat} {e : TypeId} {size n : Nat} {v : Value} {xs : List Value} (h : w.ownsRow B e size v n xs) (hB : B' ≤ B) : w.ownsRow B' e size v n xs := by
  refine ⟨h.1, ?_⟩
  rcases h.2 with h1 | ⟨g, cap, cur, h1, h2, h3⟩
  · exact .inl h1
  · exact .inr ⟨g, cap, cur, h1, Nat.le_trans hB h2, h3⟩

/-- the slice that holds some texts -/
def OwnsTexts (w : World) (B : Nat) (v : Value) (l : List (List UInt8)) : Prop := w.ownsRow B 9 1 v l.length (textCells l)

theorem parts_count_le : ∀ (n : Nat) (cur l : List UInt8), l.length ≤ n → (parts cur l).length ≤ l.length + 1
  | 0, cur, l, h => by
    have : l = [] := List.eq_nil_of_length_eq_zero (by omega)
    rw [this, parts_nil]
    simp
  | n + 1, cur, l, h => by
    by_cases hl : l = []
    · rw [hl, parts_nil]
      simp
    · rw [parts_step _ _ hl]
      have hw := decodeL_width l
      have hp : 0 < l.length := List.length_pos_iff.2 hl
      have h1 := parts_count_le n [] (l.drop (decodeL l).2) (by simp; omega)
      have h2 := parts_count_le n (cur ++ l.take (decodeL l).2) (l.drop (decodeL l).2) (by simp; omega)
      rw [List.length_drop] at h1 h2
      split
      · rw [List.length_cons]
        omega
      · omega

set_option maxRecDepth 100000 in
set_option maxHeartbeats 2000000 in
theorem parts_anyL (s : ByteArray) (w : World) (hs : s.size ≤ 1099511627776) :
    Calls Tryz.prog 162 #[.string s] w fun e w' => (∃ v, e = .returned v ∧ OwnsTexts w' w.heap.size v (parts [] s.data.toList)) ∧ Below w.heap.size w w' := by
  obtain ⟨i0, hi, hz0, hz1, hz2⟩ := info_parts infoText
  go_enter Tryz.func162, Tryz.ntmps162
  go_wp2_with fail
  go_loopg [3, 4, 5, 6] s.size (fun g v fr _ _ wr => ∃ pos fm : Nat, ∃ done : List (List UInt8), pos + g ≥ s.size ∧ pos ≤ s.size ∧ fm ≤ pos ∧ done.length ≤ pos ∧ fr = .int .i64 fm ∧
      Aside (parts [] s.data.toList = done ++ parts ((s.data.toList.drop fm).take (pos - fm)) (s.data.toList.drop pos)) ∧ wr.ownsRow (w.heap.size + 1) 9 1 v done.length (textCells done) ∧
      Hid (wr.heap[w.heap.size]? = some (.stringIter s pos)) ∧ Hid (Below w.heap.size w wr))
  case atStart => exact ⟨0, 0, [], by omega, Nat.zero_le _, Nat.le_refl _, Nat.le_refl _, rfl, rfl, (World.ownsRow_nil _ _ _ _ : World.ownsRow _ (w.heap.size + 1) 9 1 (.slice none 0 0) 0 []), w.iter_heap s 0, (Below.refl _ _).alloc (Nat.le_refl _) _⟩
  case round =>
    obtain ⟨pos, fm, done, hg, hp, hf, hd, rfl, HL, hown, HI, HB⟩ := hrel
    have HO := Lib.hid hown
    have hlen : s.data.toList.length = s.size := rfl
    have hwsz : w.heap.size < wr.heap.size := (Array.getElem?_eq_some_iff.1 HI.out).1
    clear hown
    by_cases hlt : pos < s.size
    · have hnx := fun ty => run_next_any_at (P := Tryz.prog) wr w.heap.size s pos ty HI.out hlt
      obtain ⟨k1, k2, k3⟩ := pos_step s pos hlt
      have hne : s.data.toList.drop pos ≠ [] := by
        intro e
        have : (s.data.toList.drop pos).length = 0 := by rw [e]; rfl
        rw [List.length_drop] at this
        omega
      have hps := parts_step ((s.data.toList.drop fm).take (pos - fm)) _ hne
      have hso := sep_one (s.data.toList.drop pos)
      rw [decodeL_drop] at hps hso
      have HI2 := Lib.hid (iterAt_heap wr w.heap.size s pos (pos + (Utf8.decode s pos).2) HI.out)
      have HB2 := Lib.hid (below_iterAt HB.out (Nat.le_refl _) s (pos + (Utf8.decode s pos).2))
      have HO2 := Lib.hid (ownsRow_iterAt HO.out (Nat.lt_succ_self _) s (pos + (Utf8.decode s pos).2))
      cases hsep : sepI ((Utf8.decode s pos).1 : Int) with
      | true =>
        have hone := hso hsep hne
        rw [hsep, if_pos rfl] at hps
        have HS := Lib.hid (And.intro hps (And.intro hone (And.intro hsep (And.intro k1 k2))))
        clear hps hone hsep hso k1 k2 k3 hne HI HB HO
        go_wp2_with (first | (go_at_call 196; refine (isSeparator_any _ _).mono ?_; rintro e w2 ⟨rfl, rfl⟩; rw [HS.out.2.2.1]) | (at_builtin; refine wpList_append_own _ rfl _ _ 35 rfl (w.heap.size + 1) 9 i0 (.string ⟨#[]⟩) 1 16 Tryz.underlying35 hi hz0 hz1 hz2 rfl (by decide) _ _ _ rfl (HO2.out.alloc _) ⟨(wr.iterAt w.heap.size s (pos + (Utf8.decode s pos).2)).heap.size, 0, none⟩ 1 1 [.string (s.extract fm pos)] rfl rfl ?q1 ?q2 ?q3 ?q4 ?q5 ?_))
        case q1 =>
          intro j u hj
          match j, hj with
          | 0, hj => simp at hj; subst hj; rw [show Addr.add ⟨(wr.iterAt w.heap.size s (pos + (Utf8.decode s pos).2)).heap.size, 0, none⟩ 0 = (⟨(wr.iterAt w.heap.size s (pos + (Utf8.decode s pos).2)).heap.size, 0, none⟩ : Addr) from rfl, cell_at_new]
        case q2 => intro u hu; simp at hu; subst hu; rfl
        case q3 => unfold maxLen; omega
        case q4 => omega
        case q5 => simp [iterAt_size]; omega
        intro v' w2 hown2 hgrow hnn
        have HO3 := Lib.hid hown2
        have hge : ∀ g, Value.ownBlock _ = some g → w.heap.size + 1 ≤ g := fun g hg => (HO2.out.lt g hg).1
        have HB3 : Hid (Below w.heap.size w w2) := (HB2.out.alloc (by rw [iterAt_size]; omega) _).grown hgrow (by simp [iterAt_size]; omega) (fun g hg => by have := hge g hg; omega)
        have HI3 : Hid (w2.heap[w.heap.size]? = some (.stringIter s (pos + (Utf8.decode s pos).2))) := by
          have h1 := hgrow.block w.heap.size (by simp [iterAt_size]; omega) (by intro e; have := hge _ e.symm; omega)
          rw [show w2.heap[w.heap.size]? = _ from h1, Below.heap_alloc _ _ _ (by rw [iterAt_size]; omega)]
          exact HI2.out
        clear hown2 hgrow hnn HO2 HB2 hge hnx HI2
        go_wp2_with fail
        go_roundg (gk - 1)
        case measure => omega
        case rel =>
          obtain ⟨e1, e2, e3, e4, e5⟩ := HS.out
          refine ⟨pos + (Utf8.decode s pos).2, pos + 1, done ++ [(s.data.toList.drop fm).take (pos - fm)], by omega, e5, by omega, by rw [List.length_append, List.length_singleton]; omega, by go_num, ?_, ?_, HI3, HB3⟩
          · have := HL.out
            rw [e1, List.drop_drop] at this
            show _ = _
            rw [this, e2, Nat.sub_self, List.take_zero, List.append_assoc]
            rfl
          · have := HO3.out
            rw [extract_str] at this
            rw [textCells_snoc, List.length_append, List.length_singleton]
            exact this
      | false =>
        rw [hsep, if_neg (by decide)] at hps
        have HS := Lib.hid (And.intro hps (And.intro hsep (And.intro k1 k2)))
        clear hps hsep hso k1 k2 k3 hne HI HB HO
        go_wp2_with (first | (go_at_call 196; refine (isSeparator_any _ _).mono ?_; rintro e w2 ⟨rfl, rfl⟩; rw [HS.out.2.1]))
        go_roundg (gk - 1)
        case measure => omega
        case rel =>
          obtain ⟨e1, e3, e4, e5⟩ := HS.out
          refine ⟨pos + (Utf8.decode s pos).2, fm, done, by omega, e5, by omega, by omega, rfl, ?_, HO2.out, HI2, HB2⟩
          have := HL.out
          rw [e1, List.drop_drop] at this
          show _ = _
          rw [this]
          congr 2
          have ht : pos + (Utf8.decode s pos).2 - fm = (pos - fm) + (Utf8.decode s pos).2 := by omega
          rw [ht, List.take_add, List.drop_drop, show fm + (pos - fm) = pos from by omega]
    · have hnx := fun ty => run_next_end_at (P := Tryz.prog) wr w.heap.size s pos ty HI.out hlt
      have hpe : pos = s.size := by omega
      have hd0 : s.data.toList.drop pos = [] := List.drop_eq_nil_of_le (by show s.size ≤ pos; omega)
      have HD := Lib.hid (And.intro hpe hd0)
      clear hpe hd0
      go_wp2_with (first | (at_builtin; refine wpList_append_own _ rfl _ _ 35 rfl (w.heap.size + 1) 9 i0 (.string ⟨#[]⟩) 1 16 Tryz.underlying35 hi hz0 hz1 hz2 rfl (by decide) _ _ _ rfl (HO.out.alloc _) ⟨wr.heap.size, 0, none⟩ 1 1 [.string (s.extract fm s.size)] rfl rfl ?q1 ?q2 ?q3 ?q4 ?q5 ?_))
      case q1 =>
        intro j u hj
        match j, hj with
        | 0, hj => simp at hj; subst hj; rw [show Addr.add ⟨wr.heap.size, 0, none⟩ 0 = (⟨wr.heap.size, 0, none⟩ : Addr) from rfl, cell_at_new]
      case q2 => intro u hu; simp at hu; subst hu; rfl
      case q3 => unfold maxLen; omega
      case q4 => omega
      case q5 => simp; omega
      intro v' w2 hown2 hgrow hnn
      have HO3 := Lib.hid hown2
      have hge : ∀ g, Value.ownBlock _ = some g → w.heap.size + 1 ≤ g := fun g hg => (HO.out.lt g hg).1
      have HB3 : Hid (Below w.heap.size w w2) := (HB.out.alloc (by omega) _).grown hgrow (by simp; omega) (fun g hg => by have := hge g hg; omega)
      clear hown2 hgrow hnn hge hnx
      go_wp2_with fail
      go_ret
      obtain ⟨e1, e2⟩ := HD.out
      have := HL.out
      rw [e2, parts_nil] at this
      refine ⟨⟨_, rfl, ?_⟩, HB3.out⟩
      unfold OwnsTexts
      rw [this, List.length_append, List.length_singleton, textCells_snoc, e1]
      have h2 := HO3.out
      rw [extract_str] at h2
      exact ownsRow_base h2 (by omega)
end Go.Proofs.YtemndmhdlgfajaaGreatDoor
