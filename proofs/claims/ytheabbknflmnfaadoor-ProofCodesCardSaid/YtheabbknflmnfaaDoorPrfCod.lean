/- A proof's bytes: written, read, each of the other. No walk. · The walk of a proof's Encode, where it is done. · The walk of Decode. · Node and After of a key that is none. -/
import Derived.Test.YtheabbknflmnfaaDoorOctetRR
import Derived.Test.YtheabbknflmnfaaDoorOctetB
import Derived.Test.YtheabbknflmnfaaDoorPrfY
import Derived.Test.YtheabbknflmnfaaDoorOctetPW
import Derived.Test.YtheabbknflmnfaaDoorPrfVX
import Derived.Deep.AppendLies
namespace Go.Proofs.YtheabbknflmnfaaDoor

theorem str_self' (s : ByteArray) : str s.data.toList = s := by apply ByteArray.ext; simp [str]
/-- a text's bytes -/
def textB (t : ByteArray) : List UInt8 := be t.size 2 ++ t.data.toList
def textsB (L : List ByteArray) : List UInt8 := L.flatMap textB
/-- a proof's bytes -/
def encB (L : List ByteArray) (t : Bool) (k y : ByteArray) : List UInt8 := be L.length 1 ++ (textsB L ++ (be (if t then 1 else 0) 1 ++ (textB k ++ textB y)))
theorem textsB_snoc (L : List ByteArray) (x : ByteArray) : textsB (L ++ [x]) = textsB L ++ textB x := by simp [textsB]
/-- some texts, read one by one -/
def readK (s : RSt) : Nat → List ByteArray × RSt
  | 0 => ([], s)
  | i + 1 => ((readK s i).1 ++ [(readK s i).2.text.1], (readK s i).2.text.2)
theorem readK_len (s : RSt) : ∀ i, (readK s i).1.length = i
  | 0 => rfl
  | i + 1 => by simp [readK, readK_len s i]
structure DecS where
  L : List ByteArray
  t : Nat
  k : ByteArray
  y : ByteArray
  s : RSt
/-- what is read of bytes, whatever they are -/
def decS (j : ByteArray) : DecS :=
  let a := (⟨j, 0⟩ : RSt).num 1
  let b := readK a.2 a.1
  let c := b.2.num 1
  ⟨b.1, c.1, c.2.text.1, c.2.text.2.text.1, c.2.text.2.text.2⟩

/-! what was written is read -/
theorem read_texts (r : List UInt8) : ∀ (M L : List ByteArray), (∀ x ∈ L ++ M, x.size ≤ 4096) → readK ⟨str (textsB (L ++ M) ++ r), 0⟩ L.length = (L, ⟨str (textsB M ++ r), 0⟩) := by
  have key : ∀ (n : Nat) (A : List ByteArray), (∀ x ∈ A, x.size ≤ 4096) → n ≤ A.length → readK ⟨str (textsB A ++ r), 0⟩ n = (A.take n, ⟨str (textsB (A.drop n) ++ r), 0⟩) := by
    intro n
    induction n with
    | zero => intro A _ _; rfl
    | succ n ih =>
      intro A hA hn
      have h := ih A hA (by omega)
      have hd : A.drop n = A[n] :: A.drop (n + 1) := List.drop_eq_getElem_cons (by omega)
      have e : textsB (A.drop n) ++ r = (be A[n].size 2 ++ A[n].data.toList) ++ (textsB (A.drop (n + 1)) ++ r) := by
        rw [hd]
        show (textB A[n] ++ textsB (A.drop (n + 1))) ++ r = _
        rw [List.append_assoc]
        rfl
      rw [e] at h
      have ht := rd_text (hA A[n] (List.getElem_mem _)) (textsB (A.drop (n + 1)) ++ r)
      show ((readK _ n).1 ++ [(readK _ n).2.text.1], (readK _ n).2.text.2) = _
      rw [h]
      simp only
      rw [ht, List.take_succ_eq_append_getElem (by omega)]
  intro M L h
  have := key L.length (L ++ M) h (by simp)
  simpa using this
theorem dec_enc (L : List ByteArray) (t : Bool) (k y : ByteArray) (hl : L.length ≤ 128) (hL : ∀ x ∈ L, x.size ≤ 4096) (hk : k.size ≤ 4096) (hy : y.size ≤ 4096) : decS (str (encB L t k y)) = ⟨L, (if t then 1 else 0), k, y, ⟨str [], 0⟩⟩ := by
  have h1 := rd_num (n := L.length) (k := 1) ⟨by omega, by omega, by show L.length < 256; omega⟩ (textsB L ++ (be (if t then 1 else 0) 1 ++ (textB k ++ textB y)))
  have e1 : (1 : Int).toNat = 1 := rfl
  rw [e1] at h1
  have h2 := read_texts (be (if t then 1 else 0) 1 ++ (textB k ++ textB y)) [] L (by simpa using hL)
  rw [List.append_nil] at h2
  have h3 := rd_num (n := if t then 1 else 0) (k := 1) ⟨by omega, by omega, by cases t <;> decide⟩ (textB k ++ textB y)
  rw [e1] at h3
  have h4 := rd_text hk (textB y)
  have h5 := rd_text hy []
  rw [List.append_nil] at h5
  unfold decS encB
  simp only
  rw [h1]
  simp only
  rw [h2]
  simp only
  rw [show textsB [] ++ (be (if t then 1 else 0) 1 ++ (textB k ++ textB y)) = be (if t then 1 else 0) 1 ++ (textB k ++ textB y) from rfl, h3]
  simp only
  rw [show textB k ++ textB y = (be k.size 2 ++ k.data.toList) ++ textB y from rfl, h4]
  simp only
  rw [show textB y = be y.size 2 ++ y.data.toList from rfl, h5]

/-! what was read, written again -/
/-- a state in which nothing was wrong yet, or what may be wrong -/
def errOK (s : RSt) : Prop := s.err = 0 ∨ s.err = 3 ∨ s.err = 4
theorem fixed_err {s : RSt} (h : errOK s) (k : Int) : errOK (s.fixed k).2 := by
  unfold RSt.fixed
  split
  · exact h
  · rename_i h0
    have h0' : s.err = 0 := by omega
    split
    · unfold RSt.fail; rw [if_pos h0']; exact Or.inr (Or.inr rfl)
    · split
      · unfold RSt.fail; rw [if_pos h0']; exact Or.inr (Or.inl rfl)
      · exact Or.inl h0'
theorem failR_err {s : RSt} (h : errOK s) : errOK (s.fail 4) := by
  unfold RSt.fail
  split
  · exact Or.inr (Or.inr rfl)
  · exact h
theorem num_err {s : RSt} (h : errOK s) (k : Int) : errOK (s.num k).2 := by
  unfold RSt.num
  split
  · exact fixed_err h k
  · exact failR_err h
theorem text_err {s : RSt} (h : errOK s) : errOK s.text.2 := by
  unfold RSt.text
  split
  · exact failR_err (num_err h 2)
  · exact fixed_err (num_err h 2) _
theorem readK_err {s : RSt} (h : errOK s) : ∀ i, errOK (readK s i).2
  | 0 => h
  | i + 1 => text_err (readK_err h i)
/-- an error stays -/
theorem fixed_stay {s : RSt} {k : Int} (h : (s.fixed k).2.err = 0) : s.err = 0 := by
  unfold RSt.fixed at h
  split at h
  · exact h
  · omega
theorem fail_stay {s : RSt} : (s.fail 4).err ≠ 0 := by
  unfold RSt.fail
  split
  · simp
  · assumption
theorem num_back {s : RSt} {k : Int} (hk : 1 ≤ k ∧ k ≤ 8) (h : (s.num k).2.err = 0) : s.err = 0 ∧ ∃ l : List UInt8, l.length = k.toNat ∧ (s.num k).1 = val l ∧ s.rest.data.toList = l ++ (s.num k).2.rest.data.toList := by
  unfold RSt.num at h ⊢
  rw [if_pos hk] at h ⊢
  have h0 := fixed_stay h
  refine ⟨h0, ?_⟩
  unfold RSt.fixed at h ⊢
  rw [if_neg (by omega)] at h ⊢
  rw [if_neg (by omega)] at h ⊢
  split at h
  · exact absurd h (by unfold RSt.fail; rw [if_pos h0]; show ¬ ((3 : Int) = 0); decide)
  · rename_i hs
    rw [if_neg hs]
    have hle : k.toNat ≤ s.rest.size := by omega
    refine ⟨s.rest.data.toList.take k.toNat, by rw [List.length_take, Array.length_toList]; exact Nat.min_eq_left hle, ?_, ?_⟩
    · simp
    · show s.rest.data.toList = _ ++ (s.rest.extract k.toNat s.rest.size).data.toList
      rw [ByteArray.data_extract, Array.toList_extract]
      have e : (s.rest.data.toList.drop k.toNat).take (s.rest.size - k.toNat) = s.rest.data.toList.drop k.toNat := List.take_of_length_le (by rw [List.length_drop, Array.length_toList]; exact Nat.le_refl _)
      show _ = _ ++ ((s.rest.data.toList.drop k.toNat).take (s.rest.size - k.toNat))
      rw [e, List.take_append_drop]
theorem be_one (l : List UInt8) (h : l.length = 1) : be (val l) 1 = l := by
  match l, h with
  | [c], _ => simp [be, val]
theorem be_two (l : List UInt8) (h : l.length = 2) : be (val l) 2 = l := by
  match l, h with
  | [c, d], _ =>
    have hc := c.toNat_lt
    have hd := d.toNat_lt
    simp only [be, val, List.foldl_cons, List.foldl_nil, List.nil_append, List.cons_append, Nat.mul_zero, Nat.zero_add]
    have e1 : (256 * c.toNat + d.toNat) / 256 = c.toNat := by omega
    have e2 : (256 * c.toNat + d.toNat) % 256 = d.toNat := by omega
    rw [e1, e2, Nat.mod_eq_of_lt hc]
    simp
theorem val_one_small (l : List UInt8) (h : l.length = 1) : val l < 256 := by have := val_lt l; rw [h] at this; omega
theorem text_back {s : RSt} (h : s.text.2.err = 0) : s.err = 0 ∧ s.text.1.size ≤ 4096 ∧ s.rest.data.toList = textB s.text.1 ++ s.text.2.rest.data.toList := by
  unfold RSt.text at h ⊢
  split at h
  · exact absurd h fail_stay
  · rename_i hn
    rw [if_neg hn]
    have h1 := fixed_stay h
    obtain ⟨h0, l, hl, hv, hr⟩ := num_back (k := 2) ⟨by omega, by omega⟩ h1
    obtain ⟨N, hN⟩ : ∃ N, (s.num 2).1 = N := ⟨_, rfl⟩
    obtain ⟨s2, hs2⟩ : ∃ s2, (s.num 2).2 = s2 := ⟨_, rfl⟩
    rw [hN, hs2] at h ⊢
    rw [hs2] at h1 hr
    rw [hN] at hn hv
    refine ⟨h0, ?_⟩
    unfold RSt.fixed at h ⊢
    rw [if_neg (by omega)] at h ⊢
    rw [if_neg (by omega)] at h ⊢
    split at h
    · exact absurd h (by unfold RSt.fail; rw [if_pos h1]; show ¬ ((3 : Int) = 0); decide)
    · rename_i hsz
      rw [if_neg hsz]
      have hle : N ≤ s2.rest.size := by omega
      have hsize : (s2.rest.extract 0 (N : Int).toNat).size = N := by rw [ByteArray.size_extract]; simp; omega
      refine ⟨by show (s2.rest.extract 0 (N : Int).toNat).size ≤ 4096; rw [hsize]; omega, ?_⟩
      have hx : (s2.rest.extract 0 (N : Int).toNat).data.toList ++ (s2.rest.extract (N : Int).toNat s2.rest.size).data.toList = s2.rest.data.toList := by
        rw [ByteArray.data_extract, ByteArray.data_extract, Array.toList_extract, Array.toList_extract]
        show ((s2.rest.data.toList.drop 0).take ((N : Int).toNat - 0)) ++ ((s2.rest.data.toList.drop (N : Int).toNat).take (s2.rest.size - (N : Int).toNat)) = _
        have e : (s2.rest.data.toList.drop (N : Int).toNat).take (s2.rest.size - (N : Int).toNat) = s2.rest.data.toList.drop (N : Int).toNat := List.take_of_length_le (by rw [List.length_drop, Array.length_toList]; exact Nat.le_refl _)
        rw [e, List.drop_zero, Nat.sub_zero, List.take_append_drop]
      show s.rest.data.toList = textB (s2.rest.extract 0 (N : Int).toNat) ++ (s2.rest.extract (N : Int).toNat s2.rest.size).data.toList
      unfold textB
      rw [hsize, List.append_assoc, hx, hr]
      congr 1
      rw [hv, be_two l hl]
theorem readK_back {s : RSt} : ∀ i, (readK s i).2.err = 0 → s.err = 0 ∧ (∀ x ∈ (readK s i).1, x.size ≤ 4096) ∧ s.rest.data.toList = textsB (readK s i).1 ++ (readK s i).2.rest.data.toList
  | 0, h => ⟨h, (fun x hx => by cases hx), rfl⟩
  | i + 1, h => by
    have h1 := text_back h
    obtain ⟨h2, h3, h4⟩ := readK_back i h1.1
    refine ⟨h2, fun x hx => ?_, ?_⟩
    · rcases List.mem_append.1 hx with q | q
      · exact h3 x q
      · rw [List.mem_singleton.1 q]; exact h1.2.1
    · show s.rest.data.toList = textsB ((readK s i).1 ++ [(readK s i).2.text.1]) ++ _
      rw [textsB_snoc, List.append_assoc, h4]
      congr 1
      exact h1.2.2
theorem enc_dec' (j : ByteArray) (a : Nat × RSt) (b : List ByteArray × RSt) (c : Nat × RSt) (ha : (⟨j, 0⟩ : RSt).num 1 = a) (hb : readK a.2 a.1 = b) (hc : b.2.num 1 = c) (h : c.2.text.2.text.2.err = 0) (hr : c.2.text.2.text.2.rest.size = 0) (ht : c.1 ≤ 1) :
    b.1.length ≤ 255 ∧ (∀ x ∈ b.1, x.size ≤ 4096) ∧ c.2.text.1.size ≤ 4096 ∧ c.2.text.2.text.1.size ≤ 4096 ∧ str (encB b.1 (decide (c.1 = 1)) c.2.text.1 c.2.text.2.text.1) = j := by
  have h5 := text_back h
  have h4 := text_back h5.1
  have h3 := num_back (s := b.2) (k := 1) ⟨by omega, by omega⟩ (by rw [hc]; exact h4.1)
  rw [hc] at h3
  obtain ⟨h30, l3, hl3, hv3, hr3⟩ := h3
  have h2 := readK_back (s := a.2) a.1 (by rw [hb]; exact h30)
  rw [hb] at h2
  have h1 := num_back (s := (⟨j, 0⟩ : RSt)) (k := 1) ⟨by omega, by omega⟩ (by rw [ha]; exact h2.1)
  rw [ha] at h1
  obtain ⟨_, l1, hl1, hv1, hr1⟩ := h1
  have hlen : b.1.length = a.1 := by rw [← hb]; exact readK_len _ _
  refine ⟨by rw [hlen, hv1]; have := val_one_small l1 hl1; omega, h2.2.1, h4.2.1, h5.2.1, ?_⟩
  have hrest : c.2.text.2.text.2.rest.data.toList = [] := by rw [List.eq_nil_iff_length_eq_zero, Array.length_toList]; exact hr
  have ht1 : be (if decide (c.1 = 1) then 1 else 0) 1 = l3 := by
    have e : (if decide (c.1 = 1) then 1 else 0) = c.1 := by
      have : c.1 = 0 ∨ c.1 = 1 := by omega
      rcases this with q | q <;> simp [q]
    rw [e, hv3]
    exact be_one l3 hl3
  have hj : j.data.toList = encB b.1 (decide (c.1 = 1)) c.2.text.1 c.2.text.2.text.1 := by
    unfold encB
    rw [ht1, hlen, hv1, show (1 : Nat) = 1 from rfl, be_one l1 hl1]
    show (⟨j, 0⟩ : RSt).rest.data.toList = _
    rw [hr1, h2.2.2, hr3, h4.2.2, h5.2.2, hrest, List.append_nil]
  rw [← hj, str_self']
/-- bytes that are a proof's, written again -/
theorem enc_dec (j : ByteArray) (h : (decS j).s.err = 0) (hr : (decS j).s.rest.size = 0) (ht : (decS j).t ≤ 1) : (decS j).L.length ≤ 255 ∧ (∀ x ∈ (decS j).L, x.size ≤ 4096) ∧ (decS j).k.size ≤ 4096 ∧ (decS j).y.size ≤ 4096 ∧ str (encB (decS j).L (decide ((decS j).t = 1)) (decS j).k (decS j).y) = j :=
  enc_dec' j _ _ _ rfl rfl rfl h hr ht
theorem dec_codes (j : ByteArray) : errOK (decS j).s := by
  unfold decS
  simp only
  exact text_err (text_err (num_err (readK_err (num_err (Or.inl rfl) 1) _) 1))
end Go.Proofs.YtheabbknflmnfaaDoor

namespace Go.Proofs.YtheabbknflmnfaaDoor
open Go.RowKit Go.Maps
attribute [local irreducible] shaL

theorem wr_num {w : World} {b : Nat} {ts : List ByteArray} (n : Nat) (hn : n < 256) (h : WrAt w b ⟨ts, 0⟩) (hr : total ts ≤ 1000000000) :
    Calls Tryd.prog 56 #[.pointer (some ⟨b, 0, none⟩), .int .u64 n, .int .i64 1] w fun e w' => e = .returned (.pointer (some ⟨b, 0, none⟩)) ∧ WrAt w' b ⟨str (be n 1) :: ts, 0⟩ ∧ w.grownBy w' (some b) := by
  refine (wnum_any n (by omega) 1 w (some ⟨b, 0, none⟩) (some ⟨ts, 0⟩) ⟨b, rfl, h⟩ (fun x e => by cases e; show 8 + total ts ≤ _; omega)).mono ?_
  rintro e w' ⟨rfl, hw, g⟩
  obtain ⟨b', e', hw⟩ := hw
  cases e'
  have e2 : (⟨ts, 0⟩ : WSt).num n 1 = ⟨str (be n 1) :: ts, 0⟩ := by
    unfold WSt.num
    rw [if_pos ⟨by omega, by omega, by show n < 256; exact hn⟩]
    rfl
  have hw : WrAt w' b ((⟨ts, 0⟩ : WSt).num n 1) := hw
  rw [e2] at hw
  exact ⟨rfl, hw, g⟩
theorem wr_text {w : World} {b : Nat} {ts : List ByteArray} (t : ByteArray) (ht : t.size ≤ 4096) (h : WrAt w b ⟨ts, 0⟩) (hr : total ts ≤ 1000000000) :
    Calls Tryd.prog 57 #[.pointer (some ⟨b, 0, none⟩), .string t] w fun e w' => e = .returned (.pointer (some ⟨b, 0, none⟩)) ∧ WrAt w' b ⟨t :: str (be t.size 2) :: ts, 0⟩ ∧ w.grownBy w' (some b) := by
  refine (wtext_any t (by unfold maxLen; omega) w (some ⟨b, 0, none⟩) (some ⟨ts, 0⟩) ⟨b, rfl, h⟩ (fun x e => by cases e; show 2 + t.size + total ts ≤ _; omega)).mono ?_
  rintro e w' ⟨rfl, hw, g⟩
  obtain ⟨b', e', hw⟩ := hw
  cases e'
  have e2 : (⟨ts, 0⟩ : WSt).text t = ⟨t :: str (be t.size 2) :: ts, 0⟩ := by
    unfold WSt.text
    rw [if_pos ht]
    rfl
  have hw : WrAt w' b ((⟨ts, 0⟩ : WSt).text t) := hw
  rw [e2] at hw
  exact ⟨rfl, hw, g⟩
theorem textsB_len : ∀ (M : List ByteArray), (∀ x ∈ M, x.size ≤ 4096) → (textsB M).length ≤ M.length * 4098
  | [], _ => Nat.zero_le _
  | x :: r, h => by
    have h1 := textsB_len r (fun y hy => h y (List.mem_cons_of_mem _ hy))
    have h2 := h x List.mem_cons_self
    show (textB x ++ textsB r).length ≤ _
    have h3 : (textB x).length = 2 + x.size := by unfold textB; rw [List.length_append, be_length]; rfl
    rw [List.length_append, h3, List.length_cons, Nat.succ_mul]
    omega
theorem flat_text (ts : List ByteArray) (t : ByteArray) : flat (t :: str (be t.size 2) :: ts) = flat ts ++ textB t := by
  show (flat ts ++ (str (be t.size 2)).data.toList) ++ t.data.toList = _
  rw [str_data, List.append_assoc]
  rfl
theorem flat_num (ts : List ByteArray) (n : Nat) : flat (str (be n 1) :: ts) = flat ts ++ be n 1 := by
  show flat ts ++ (str (be n 1)).data.toList = _
  rw [str_data]
set_option maxRecDepth 100000 in
set_option maxHeartbeats 4000000 in
theorem encode_any (a : Option Addr) (c : Nat) (L : List ByteArray) (t : Bool) (k y : ByteArray) (w : World) (hv : StrsAt w (.slice a L.length c) L) (hl : L.length ≤ 128) (hL : ∀ x ∈ L, x.size ≤ 4096) (hk : k.size ≤ 4096) (hy : y.size ≤ 4096) :
    Calls Tryd.prog 34 #[.agg #[.slice a L.length c, .bool t, .string k, .string y]] w fun e w' => e = .returned (.tuple #[.string (str (encB L t k y)), .int .i64 0]) ∧ w.grownBy w' none := by
  obtain ⟨n, hn⟩ : ∃ n, L.length = n := ⟨_, rfl⟩
  rw [hn] at hv hl ⊢
  have HV := Lib.hid hv
  have HN := Lib.hid hn
  have HL := Lib.hid hL
  have HKY := Lib.hid (And.intro hk hy)
  have hp0 := ProofIn.new w (.slice a n c) t k y
  have hg0 : w.grownBy (w.alloc (.cells #[.slice a n c, .bool t, .string k, .string y] 51)) none := World.grownBy_alloc _ _ _
  obtain ⟨W0, hW0⟩ : ∃ W0, w.alloc (.cells #[.slice a n c, .bool t, .string k, .string y] 51) = W0 := ⟨_, rfl⟩
  rw [hW0] at hp0 hg0
  have hWB : WrAt (W0.alloc (.cells #[.pointer none, .int .i64 0, .int .i64 0] 90)) W0.heap.size ⟨[], 0⟩ := ⟨.pointer none, heap_alloc_at W0 _ _ rfl, rfl⟩
  have hg1 : W0.grownBy (W0.alloc (.cells #[.pointer none, .int .i64 0, .int .i64 0] 90)) none := World.grownBy_alloc _ _ _
  have hx := hp0.cells
  have hx1 := (hp0.grown hg1).cells
  have hxl : w.heap.size < W0.heap.size := (Array.getElem?_eq_some_iff.1 hp0).1
  have HXL := Lib.hid hxl
  have HNUM := Lib.hid (wr_num n (by omega) hWB (by show 0 ≤ _; omega))
  have H1 := Lib.hid (And.intro (grownBy_trans hg0 hg1) (hp0.grown hg1))
  have HW0 := Lib.hid hW0
  obtain ⟨x0, x1, x2, x3⟩ := hx
  obtain ⟨y0, y1, y2, y3⟩ := hx1
  have c1 : IntKind.u64.wrap (n : Int) = (n : Int) := by have := IntWalk.u64_in (n : Int) (by omega); exact this
  have c2 : ¬ (n : Int) > 128 := by omega
  clear hv hn hL hk hy hp0 hg0 hg1 hW0 hWB hxl
  go_enter Tryd.func34, Tryd.ntmps34
  go_wp2_with (rw [HW0.out])
  refine HNUM.out.mono ?_
  rintro e w1 ⟨rfl, hw1, g1⟩
  obtain ⟨WB, hWB⟩ : ∃ b, W0.heap.size = b := ⟨_, rfl⟩
  rw [hWB] at hw1 g1 ⊢
  have HLT : Hid (w.heap.size < WB) := Lib.hid (by rw [← hWB]; exact HXL.out)
  obtain ⟨XB, hXB⟩ : ∃ b, w.heap.size = b := ⟨_, rfl⟩
  have HXB := Lib.hid hXB
  have hxw : XB ≠ WB := by have := HLT.out; omega
  have hnew : ∀ g, some WB = some g → w.heap.size ≤ g := fun g e => by cases e; have := HLT.out; omega
  have hp1 : ProofIn w1 XB (.slice a n c) t k y := by rw [← hXB]; exact g1.heap H1.out.2 (fun e => hxw (by rw [hXB] at e; exact (Option.some.inj e).symm))
  have I1 : Hid (WrAt w1 WB ⟨[str (be n 1)], 0⟩ ∧ w.grownBy w1 none ∧ ProofIn w1 XB (.slice a n c) t k y) := Lib.hid ⟨hw1, grown_row H1.out.1 g1 hnew, hp1⟩
  have HXW := Lib.hid (And.intro hxw hnew)
  obtain ⟨x0, x1, x2, x3⟩ := hp1.cells
  rw [hXB]
  clear hw1 g1 hWB hXB hxw hnew hp1 HNUM H1 y0 y1 y2 y3
  go_wp2_with fail
  go_loopw [6, 20] (fun _ iv wr => ∃ (i : Nat) (ts : List ByteArray), i ≤ n ∧ iv = .int .i64 i ∧ Hid (flat ts = be n 1 ++ textsB (L.take i)) ∧ Hid (WrAt wr WB ⟨ts, 0⟩ ∧ w.grownBy wr none ∧ ProofIn wr XB (.slice a n c) t k y)) (fun _ iv _ => n - (intOf iv).toNat)
  case atStart => exact ⟨0, _, Nat.zero_le _, rfl, Lib.hid (by rw [List.take_zero]; show ([] ++ (str (be n 1)).data.toList) = be n 1 ++ []; rw [str_data]; simp), I1.out⟩
  case round =>
    obtain ⟨i, ts, hi, rfl, HF, HI⟩ := hrel
    have htot : total ts ≤ 600000 := by
      rw [← flat_length, HF.out, List.length_append, be_length]
      have h1 := textsB_len (L.take i) (fun x hx => HL.out x (List.mem_of_mem_take hx))
      have h2 := List.length_take_le i L
      have h3 : (L.take i).length * 4098 ≤ 128 * 4098 := Nat.mul_le_mul_right _ (by omega)
      omega
    by_cases hil : i < n
    · obtain ⟨s, hs⟩ : ∃ s, L[i]? = some s := ⟨_, List.getElem?_eq_getElem (by have := HN.out; omega)⟩
      obtain ⟨g1, o1, rfl, hc1⟩ := (strs_grown HV.out HI.out.2.1).at_ i s hs
      have e0 : (0 : Int) ≤ (i : Int) := by omega
      have e1 : (i : Int) < (n : Int) := by omega
      have htk : L.take (i + 1) = L.take i ++ [s] := take_succ_at hs
      have HTK := Lib.hid htk
      have HTX := Lib.hid (wr_text s (HL.out s (List.mem_of_getElem? hs)) HI.out.1 (by omega))
      clear hs htk htot
      go_wp2_with fail
      refine HTX.out.mono ?_
      rintro e w2 ⟨rfl, hw2, g2⟩
      have N2 : Hid (WrAt w2 WB ⟨s :: str (be s.size 2) :: ts, 0⟩ ∧ w.grownBy w2 none ∧ ProofIn w2 XB (.slice (some ⟨g1, o1, none⟩) n c) t k y) := Lib.hid ⟨hw2, grown_row HI.out.2.1 g2 HXW.out.2, g2.heap HI.out.2.2 (fun e => HXW.out.1 (Option.some.inj e).symm)⟩
      clear hw2 g2
      go_wp2_with fail
      go_roundw
      case rel => exact ⟨i + 1, _, by omega, by go_num, Lib.hid (by rw [flat_text, HF.out, HTK.out, textsB_snoc, List.append_assoc]), N2.out⟩
      case measure => simp [intOf]; omega
    · have e1 : ¬ (i : Int) < (n : Int) := by omega
      have hin : L.take i = L := List.take_of_length_le (by have := HN.out; omega)
      rw [hin] at HF
      have hm : (if t then 1 else 0) < 256 := by cases t <;> decide
      obtain ⟨m, hmm⟩ : ∃ m, (if t then 1 else 0) = m := ⟨_, rfl⟩
      rw [hmm] at hm
      have tA : total (str (be m 1) :: ts) ≤ 600001 := by rw [total_cons, str_size, be_length]; omega
      have tB : total (k :: str (be k.size 2) :: str (be m 1) :: ts) ≤ 700000 := by rw [total_cons, total_cons, str_size, be_length]; have := HKY.out.1; omega
      have tC : total (y :: str (be y.size 2) :: k :: str (be k.size 2) :: str (be m 1) :: ts) ≤ 800000 := by rw [total_cons, total_cons, str_size, be_length]; have := HKY.out.2; omega
      have hend : str (flat (y :: str (be y.size 2) :: k :: str (be k.size 2) :: str (be m 1) :: ts)) = str (encB L t k y) := by
        rw [flat_text, flat_text, flat_num, HF.out]
        unfold encB
        rw [hmm, HN.out]
        simp [List.append_assoc]
      have HEND := Lib.hid hend
      have HT := Lib.hid (And.intro tA (And.intro tB tC))
      have x1 := HI.out.2.2.cells.2.1
      have x2 := HI.out.2.2.cells.2.2.1
      have x3 := HI.out.2.2.cells.2.2.2
      have hne : XB ≠ WB := HXW.out.1
      have hne2 : ∀ (w' w'' : World) (o : Nat) (u : Value), w'.grownBy w'' (some WB) → w'.cell? ⟨XB, o, none⟩ = some u → w''.cell? ⟨XB, o, none⟩ = some u := fun w' w'' o u g h => g.cell h (fun e => hne (Option.some.inj e))
      have HNE2 := Lib.hid hne2
      have hdw : WrAt wr.drew WB ⟨ts, 0⟩ := HI.out.1.grown (grownBy_drew (World.grownBy.refl _ _))
      have HN1 := Lib.hid (wr_num (w := wr.drew) m hm hdw (by omega))
      clear hin tA tB tC hend hm hne hne2 hdw htot hil hi
      cases t
      · skip
        obtain rfl : m = 0 := by simpa using hmm.symm
        have HN3 : Hid (Calls Tryd.prog 56 #[.pointer (some ⟨WB, 0, none⟩), .int .u64 0, .int .i64 1] wr.drew fun e w' => e = .returned (.pointer (some ⟨WB, 0, none⟩)) ∧ WrAt w' WB ⟨str (be 0 1) :: ts, 0⟩ ∧ wr.drew.grownBy w' (some WB)) := HN1
        clear HN1 hmm
        go_wp2_with fail
        go_region_held3 (fun w' => w'.cell? ⟨XB, 2, none⟩ = some (.string k) ∧ w'.cell? ⟨XB, 3, none⟩ = some (.string y)) (first | exact ck | exact ⟨x2, x3⟩)
          (first
            | (go_at_call 56; (with_reducible refine (HN3.out).mono ?_); rintro e w6 ⟨rfl, hwA, g6⟩; have ck : w6.cell? ⟨XB, 2, none⟩ = some (.string k) ∧ w6.cell? ⟨XB, 3, none⟩ = some (.string y) := ⟨HNE2.out _ _ _ _ g6 x2, HNE2.out _ _ _ _ g6 x3⟩)
            | (go_at_call 57; (with_reducible refine (wr_text k HKY.out.1 hwA (Nat.le_trans HT.out.1 (by decide))).mono ?_); rintro e w7 ⟨rfl, hwB, g7⟩; have ck : w7.cell? ⟨XB, 2, none⟩ = some (.string k) ∧ w7.cell? ⟨XB, 3, none⟩ = some (.string y) := ⟨HNE2.out _ _ _ _ g7 ck.1, HNE2.out _ _ _ _ g7 ck.2⟩)
            | (go_at_call 57; (with_reducible refine (wr_text y HKY.out.2 hwB (Nat.le_trans HT.out.2.1 (by decide))).mono ?_); rintro e w8 ⟨rfl, hwC, g8⟩; have ck : w8.cell? ⟨XB, 2, none⟩ = some (.string k) ∧ w8.cell? ⟨XB, 3, none⟩ = some (.string y) := ⟨HNE2.out _ _ _ _ g8 ck.1, HNE2.out _ _ _ _ g8 ck.2⟩)
            | (go_at_call 58; (with_reducible refine (bytes_ok _ _ _ hwC (Nat.le_trans HT.out.2.2 (by decide))).mono ?_); rintro e w9 ⟨rfl, g9⟩; have ck : w9.cell? ⟨XB, 2, none⟩ = some (.string k) ∧ w9.cell? ⟨XB, 3, none⟩ = some (.string y) := ⟨g9.cell ck.1 (by simp), g9.cell ck.2 (by simp)⟩))
        have hgf : w.grownBy w9 none := grownBy_trans (grown_row (grown_row (grown_row (grownBy_drew HI.out.2.1) g6 HXW.out.2) g7 HXW.out.2) g8 HXW.out.2) g9
        have HGF := Lib.hid hgf
        clear hgf g6 g7 g8 g9 hwA hwB hwC ck
        go_wp2_with fail
        go_returns
        exact ⟨by rw [HEND.out]; rfl, HGF.out⟩
      · skip
        obtain rfl : m = 1 := by simpa using hmm.symm
        have HN3 : Hid (Calls Tryd.prog 56 #[.pointer (some ⟨WB, 0, none⟩), .int .u64 1, .int .i64 1] wr.drew fun e w' => e = .returned (.pointer (some ⟨WB, 0, none⟩)) ∧ WrAt w' WB ⟨str (be 1 1) :: ts, 0⟩ ∧ wr.drew.grownBy w' (some WB)) := HN1
        clear HN1 hmm
        go_wp2_with fail
        go_region_held3 (fun w' => w'.cell? ⟨XB, 2, none⟩ = some (.string k) ∧ w'.cell? ⟨XB, 3, none⟩ = some (.string y)) (first | exact ck | exact ⟨x2, x3⟩)
          (first
            | (go_at_call 56; (with_reducible refine (HN3.out).mono ?_); rintro e w6 ⟨rfl, hwA, g6⟩; have ck : w6.cell? ⟨XB, 2, none⟩ = some (.string k) ∧ w6.cell? ⟨XB, 3, none⟩ = some (.string y) := ⟨HNE2.out _ _ _ _ g6 x2, HNE2.out _ _ _ _ g6 x3⟩)
            | (go_at_call 57; (with_reducible refine (wr_text k HKY.out.1 hwA (Nat.le_trans HT.out.1 (by decide))).mono ?_); rintro e w7 ⟨rfl, hwB, g7⟩; have ck : w7.cell? ⟨XB, 2, none⟩ = some (.string k) ∧ w7.cell? ⟨XB, 3, none⟩ = some (.string y) := ⟨HNE2.out _ _ _ _ g7 ck.1, HNE2.out _ _ _ _ g7 ck.2⟩)
            | (go_at_call 57; (with_reducible refine (wr_text y HKY.out.2 hwB (Nat.le_trans HT.out.2.1 (by decide))).mono ?_); rintro e w8 ⟨rfl, hwC, g8⟩; have ck : w8.cell? ⟨XB, 2, none⟩ = some (.string k) ∧ w8.cell? ⟨XB, 3, none⟩ = some (.string y) := ⟨HNE2.out _ _ _ _ g8 ck.1, HNE2.out _ _ _ _ g8 ck.2⟩)
            | (go_at_call 58; (with_reducible refine (bytes_ok _ _ _ hwC (Nat.le_trans HT.out.2.2 (by decide))).mono ?_); rintro e w9 ⟨rfl, g9⟩; have ck : w9.cell? ⟨XB, 2, none⟩ = some (.string k) ∧ w9.cell? ⟨XB, 3, none⟩ = some (.string y) := ⟨g9.cell ck.1 (by simp), g9.cell ck.2 (by simp)⟩))
        have hgf : w.grownBy w9 none := grownBy_trans (grown_row (grown_row (grown_row (grownBy_drew HI.out.2.1) g6 HXW.out.2) g7 HXW.out.2) g8 HXW.out.2) g9
        have HGF := Lib.hid hgf
        clear hgf g6 g7 g8 g9 hwA hwB hwC ck
        go_wp2_with fail
        go_returns
        exact ⟨by rw [HEND.out]; rfl, HGF.out⟩
end Go.Proofs.YtheabbknflmnfaaDoor

namespace Go.Proofs.YtheabbknflmnfaaDoor
open Go.RowKit Go.Maps
attribute [local irreducible] shaL

theorem rd_num1 {w : World} {b : Nat} {s : RSt} (h : RdAt w b s.rest s.err) (hm : s.rest.size ≤ maxLen) :
    Calls Tryd.prog 60 #[.pointer (some ⟨b, 0, none⟩), .int .i64 1] w fun e w' => e = .returned (.int .u64 (s.num 1).1) ∧ RdAt w' b (s.num 1).2.rest (s.num 1).2.err ∧ w.grownBy w' (some b) := by
  refine (rnum_any 1 w (some ⟨b, 0, none⟩) (some s) ⟨b, rfl, h⟩ (by rintro x ⟨⟩; exact hm)).mono ?_
  rintro e w' ⟨rfl, hw, g⟩
  obtain ⟨b', e', hw⟩ := hw
  cases e'
  exact ⟨rfl, hw, g⟩
theorem rd_text1 {w : World} {b : Nat} {s : RSt} (h : RdAt w b s.rest s.err) (hm : s.rest.size ≤ maxLen) :
    Calls Tryd.prog 61 #[.pointer (some ⟨b, 0, none⟩)] w fun e w' => e = .returned (.string s.text.1) ∧ RdAt w' b s.text.2.rest s.text.2.err ∧ w.grownBy w' (some b) := by
  refine (rtext_any w (some ⟨b, 0, none⟩) (some s) ⟨b, rfl, h⟩ (by rintro x ⟨⟩; exact hm)).mono ?_
  rintro e w' ⟨rfl, hw, g⟩
  obtain ⟨b', e', hw⟩ := hw
  cases e'
  exact ⟨rfl, hw, g⟩
theorem text_rest_le (s : RSt) : s.text.2.rest.size ≤ s.rest.size := by
  have h1 := (rest_le s 2).1
  have hf : ∀ (s : RSt) e, (s.fail e).rest.size = s.rest.size := by intro s e; unfold RSt.fail; split <;> rfl
  unfold RSt.text
  split
  · show ((s.num 2).2.fail 4).rest.size ≤ _
    rw [hf]; exact h1
  · exact Nat.le_trans (rest_le _ _).2 h1
theorem readK_rest_le (s : RSt) : ∀ i, (readK s i).2.rest.size ≤ s.rest.size
  | 0 => Nat.le_refl _
  | i + 1 => Nat.le_trans (text_rest_le _) (readK_rest_le s i)
/-- where Decode is: the reader, the proof being made, the result's cell -/
structure DecAt (n pb : Nat) (w wr : World) (bv : Value) (Bk : List ByteArray) (s : RSt) : Prop where
  way : wr.ownsRow (pb + 1) 9 1 bv Bk.length (strsV Bk)
  res : wr.heap[n]? = some (.cells emptyP 51 (0, 0))
  rd : RdAt wr (n + 1) s.rest s.err
  prf : wr.heap[pb]? = some (.cells #[bv, .bool false, .string ⟨#[]⟩, .string ⟨#[]⟩] 51 (0, 0))
  grown : w.grownBy wr none
  lt : n + 1 < pb
theorem DecAt.drew {n pb : Nat} {w wr : World} {bv : Value} {Bk : List ByteArray} {s : RSt} (h : DecAt n pb w wr bv Bk s) : DecAt n pb w wr.drew bv Bk s := ⟨h.way, h.res, h.rd, h.prf, grownBy_drew h.grown, h.lt⟩
theorem DecAt.size {n pb : Nat} {w wr : World} {bv : Value} {Bk : List ByteArray} {s : RSt} (h : DecAt n pb w wr bv Bk s) : pb + 1 ≤ wr.heap.size := (Array.getElem?_eq_some_iff.1 h.prf).1
theorem DecAt.cell {n pb : Nat} {w wr : World} {bv : Value} {Bk : List ByteArray} {s : RSt} (h : DecAt n pb w wr bv Bk s) : wr.cell? ⟨pb, 0, none⟩ = some bv := by rw [cell_of h.prf]; rfl
theorem DecAt.read {n pb : Nat} {w wr w' : World} {bv : Value} {Bk : List ByteArray} {s s' : RSt} (h : DecAt n pb w wr bv Bk s) (hn : w.heap.size = n) (g : wr.grownBy w' (some (n + 1))) (hr : RdAt w' (n + 1) s'.rest s'.err) : DecAt n pb w w' bv Bk s' :=
  have hlt := h.lt
  ⟨own_keep h.way g (fun x hx e => by have e2 : n + 1 = x := Option.some.inj e; have := (h.way.lt x hx).1; omega), g.heap h.res (fun e => by have := Option.some.inj e; omega), hr, g.heap h.prf (fun e => by have := Option.some.inj e; omega), grown_row h.grown g (fun x e => by have e2 : n + 1 = x := Option.some.inj e; omega), h.lt⟩
theorem DecAt.prf8 {n pb : Nat} {w w7 w8 : World} {bv : Value} {Bk : List ByteArray} {s : RSt} {o : Obj} (h : DecAt n pb w w7 bv Bk s) (k8 : (w7.alloc o).grownBy w8 bv.ownBlock) : w8.cell? ⟨pb, 0, none⟩ = some bv ∧ w8.frozen? ⟨pb, 0, none⟩ = false := by
  have hb := h.way.lt
  have hp8 := k8.heap ((World.grownBy_alloc w7 o none).heap h.prf (by simp)) (fun e => by have := (hb _ e).1; omega)
  exact ⟨by rw [cell_of hp8]; rfl, frozen_of_row _ _ _ _ _ hp8⟩
theorem DecAt.push {n pb : Nat} {w w7 w8 : World} {bv : Value} {Bk : List ByteArray} {s : RSt} {o : Obj} {x : ByteArray} {g8 c8 : Nat} (h : DecAt n pb w w7 bv Bk s) (hn : w.heap.size = n) (k8 : (w7.alloc o).grownBy w8 bv.ownBlock)
    (ho : w8.ownsRow (pb + 1) 9 1 (.slice (some ⟨g8, 0, none⟩) (Bk.length + 1) c8) (Bk.length + 1) (strsV (Bk ++ [x]))) (hg : bv.ownBlock = some g8 ∨ g8 = (w7.alloc o).heap.size) :
    DecAt n pb w (w8.setCell ⟨pb, 0, none⟩ (.slice (some ⟨g8, 0, none⟩) (Bk.length + 1) c8)) (.slice (some ⟨g8, 0, none⟩) (Bk.length + 1) c8) (Bk ++ [x]) s := by
  have hb := h.way.lt
  have hlt := h.lt
  have ka := World.grownBy_alloc w7 o none
  have hg8 : pb + 1 ≤ g8 := by
    rcases hg with e | e
    · exact (hb g8 e).1
    · have := h.size
      have := World.size_alloc w7 o
      omega
  have hp8 := k8.heap (ka.heap h.prf (by simp)) (fun e => by have := (hb _ e).1; omega)
  have hr8 := k8.heap (ka.heap h.res (by simp)) (fun e => by have := (hb _ e).1; omega)
  have hd8 : RdAt w8 (n + 1) s.rest s.err := k8.heap (ka.heap h.rd (by simp)) (fun e => by have := (hb _ e).1; omega)
  refine ⟨?_, ?_, ?_, ?_, ?_, hlt⟩
  · have e8 : (Bk ++ [x]).length = Bk.length + 1 := by simp
    rw [e8]
    exact own_keep ho (grownBy_setCell (World.grownBy.refl w8 _) 0 _) (fun y hy e => by have e2 : pb = y := Option.some.inj e; have e3 : g8 = y := Option.some.inj hy; omega)
  · rw [heap_setCell_ne _ _ _ _ (by omega)]
    exact hr8
  · show (w8.setCell _ _).heap[n + 1]? = _
    rw [heap_setCell_ne _ _ _ _ (by omega)]
    exact hd8
  · have := heap_setCell hp8 0 (.slice (some ⟨g8, 0, none⟩) (Bk.length + 1) c8)
    rw [this]
    rfl
  · have k9 := grown_row (grownBy_trans h.grown ka) k8 (fun y e => by have := (hb y e).1; omega)
    exact grownBy_setNew k9 (by omega) _ _
theorem results_decode {n : Nat} {v0 v1 v2 v3 : Value} {z : Int} {tmps : Array Value} {w : World} (h6 : tmps[2]? = some (.pointer (some ⟨n, 0, none⟩))) (h7 : tmps[3]? = some (.int .i64 z)) (hb : w.heap[n]? = some (.cells #[v0, v1, v2, v3] 51 (0, 0))) :
    (results Tryd.f35 tmps).run Tryd.prog w = .ok (.tuple #[.agg #[v0, v1, v2, v3], .int .i64 z]) w := by
  have c0 : w.cell? ⟨n, 0, none⟩ = some v0 := by rw [cell_of hb]; rfl
  have c1 : w.cell? ⟨n, 1, none⟩ = some v1 := by rw [cell_of hb]; rfl
  have c2 : w.cell? ⟨n, 2, none⟩ = some v2 := by rw [cell_of hb]; rfl
  have c3 : w.cell? ⟨n, 3, none⟩ = some v3 := by rw [cell_of hb]; rfl
  simp [results, Tryd.results35, go_sem, h6, h7, c0, c1, c2, c3]
/-- what Decode tells -/
def DecPost (j : ByteArray) (w : World) (e : Ending) (w' : World) : Prop :=
  ((decS j).s.done ≠ 0 ∧ e = .returned (.tuple #[.agg emptyP, .int .i64 (decS j).s.done])) ∨
  ((decS j).s.done = 0 ∧ ((decS j).L.length > 128 ∨ (decS j).t > 1) ∧ e = .returned (.tuple #[.agg emptyP, .int .i64 4])) ∨
  ((decS j).s.done = 0 ∧ (decS j).L.length ≤ 128 ∧ (decS j).t ≤ 1 ∧ ∃ bv, e = .returned (.tuple #[.agg #[bv, .bool (decide ((decS j).t = 1)), .string (decS j).k, .string (decS j).y], .int .i64 0]) ∧ w'.ownsRow w.heap.size 9 1 bv (decS j).L.length (strsV (decS j).L))
set_option maxRecDepth 100000 in
set_option maxHeartbeats 4000000 in
theorem decode_any (j : ByteArray) (hj : j.size ≤ 1000000000) (w : World) :
    Calls Tryd.prog 35 #[.string j] w fun e w' => DecPost j w e w' ∧ w.grownBy w' none := by
  obtain ⟨i0, hti, hz0, hz1, hz2⟩ := info_parts infoStrW
  have HRD := Lib.hid (read_any j (w.alloc (.cells #[.slice none 0 0, .bool false, .string ⟨#[]⟩, .string ⟨#[]⟩] 51)))
  have HJ := Lib.hid hj
  have hr0 := heap_alloc_at w (.cells #[.slice none 0 0, .bool false, .string ⟨#[]⟩, .string ⟨#[]⟩] 51) _ rfl
  have hg0 : w.grownBy (w.alloc (.cells #[.slice none 0 0, .bool false, .string ⟨#[]⟩, .string ⟨#[]⟩] 51)) none := World.grownBy_alloc _ _ _
  clear hj
  go_enter Tryd.func35, Tryd.ntmps35
  go_wp2_with fail
  refine HRD.out.mono ?_
  rintro e w1 ⟨rfl, hrd1, g1⟩
  have hr1 := g1.heap hr0 (by simp)
  have hg1 := grownBy_trans hg0 g1
  have hs0 : (w.alloc (.cells #[.slice none 0 0, .bool false, .string ⟨#[]⟩, .string ⟨#[]⟩] 51)).heap.size = w.heap.size + 1 := by simp
  rw [hs0] at hrd1 ⊢
  have hlt1 : w.heap.size + 1 < w1.heap.size := (Array.getElem?_eq_some_iff.1 (show w1.heap[w.heap.size + 1]? = _ from hrd1)).1
  obtain ⟨n, hn⟩ : ∃ n, w.heap.size = n := ⟨_, rfl⟩
  have HN := Lib.hid hn
  rw [hn] at hrd1 hr1 hlt1 ⊢
  have hp2 := heap_alloc_at w1 (.cells #[.slice none 0 0, .bool false, .string ⟨#[]⟩, .string ⟨#[]⟩] 51) _ rfl
  have hg2 : w1.grownBy (w1.alloc (.cells #[.slice none 0 0, .bool false, .string ⟨#[]⟩, .string ⟨#[]⟩] 51)) none := World.grownBy_alloc _ _ _
  obtain ⟨W2, hW2⟩ : ∃ W2, w1.alloc (.cells #[.slice none 0 0, .bool false, .string ⟨#[]⟩, .string ⟨#[]⟩] 51) = W2 := ⟨_, rfl⟩
  rw [hW2] at hp2 hg2
  obtain ⟨pb, hpb⟩ : ∃ b, w1.heap.size = b := ⟨_, rfl⟩
  rw [hpb] at hp2 hlt1
  have h2 : DecAt n pb w W2 (.slice none 0 0) [] ⟨j, 0⟩ := ⟨World.ownsRow_nil _ _ _ _, hg2.heap hr1 (by simp), hg2.heap hrd1 (by simp), hp2, grownBy_trans hg1 hg2, hlt1⟩
  have H2 := Lib.hid h2
  have HW2 := Lib.hid hW2
  have HPB := Lib.hid hpb
  have hnum := rd_num1 (s := ⟨j, 0⟩) h2.rd (by have := HJ.out; unfold maxLen; show j.size ≤ _; omega)
  obtain ⟨A, hA⟩ : ∃ A, (⟨j, 0⟩ : RSt).num 1 = A := ⟨_, rfl⟩
  rw [hA] at hnum
  have HNUM := Lib.hid hnum
  have hA1 : A.1 < 256 := by rw [← hA]; unfold RSt.num; rw [if_pos ⟨by omega, by omega⟩]; have := val_lt ((⟨j, 0⟩ : RSt).fixed 1).1.data.toList; have h3 := fixed_size (⟨j, 0⟩ : RSt) 1; rw [Array.length_toList] at this; have h4 : 256 ^ ((⟨j, 0⟩ : RSt).fixed 1).1.data.size ≤ 256 ^ 1 := Nat.pow_le_pow_right (by decide) h3; omega
  have hA2 : A.2.rest.size ≤ 1000000000 := by rw [← hA]; exact Nat.le_trans (rest_le _ 1).1 HJ.out
  have HA := Lib.hid (And.intro hA (And.intro hA1 hA2))
  clear hr0 hg0 hrd1 g1 hr1 hg1 hs0 hlt1 hn hp2 hg2 hW2 hpb h2 hnum HRD hA hA1 hA2
  go_wp2_with fail
  rw [HW2.out, HPB.out]
  refine HNUM.out.mono ?_
  rintro e w3 ⟨rfl, hrd3, g3⟩
  have H3 := Lib.hid (H2.out.read HN.out g3 hrd3)
  obtain ⟨N, hN⟩ : ∃ N, A.1 = N := ⟨_, rfl⟩
  have HNN := Lib.hid hN
  have hN256 : N < 256 := by rw [← hN]; exact HA.out.2.1
  rw [hN]
  clear hrd3 g3 H2 HNUM hN HW2 HPB
  go_wp2_with fail
  go_loopw [12] (fun iv wr => ∃ i : Nat, i ≤ N ∧ ∃ (bv : Value) (Bk : List ByteArray), iv = .int .u64 i ∧ Hid (Bk = (readK A.2 i).1) ∧ Hid (DecAt n pb w wr bv Bk (readK A.2 i).2)) (fun iv _ => N - (intOf iv).toNat)
  case atStart => exact ⟨0, Nat.zero_le _, _, [], rfl, Lib.hid rfl, H3.out⟩
  case round =>
    clear H3
    obtain ⟨i, hi, bv, Bk, rfl, HBk, HA1⟩ := hrel
    obtain ⟨ba, bc, rfl⟩ := slice_own' HA1.out.way
    have hbl : Bk.length = i := by rw [HBk.out, readK_len]
    by_cases hil : i < N
    · have e1 : (i : Int) < (N : Int) := by omega
      have hsz : (readK A.2 i).2.rest.size ≤ maxLen := by have := readK_rest_le A.2 i; have := HA.out.2.2; unfold maxLen; omega
      have htx := rd_text1 (s := (readK A.2 i).2) HA1.out.drew.rd hsz
      obtain ⟨x, hx⟩ : ∃ x, (readK A.2 i).2.text.1 = x := ⟨_, rfl⟩
      obtain ⟨s2, hs2⟩ : ∃ x, (readK A.2 i).2.text.2 = x := ⟨_, rfl⟩
      rw [hx, hs2] at htx
      have HTX := Lib.hid htx
      have HX := Lib.hid (And.intro hx hs2)
      have hcp := HA1.out.cell
      have hz1' : Bk.length + 1 ≤ maxLen := by unfold maxLen; omega
      have hz2' : (Bk.length + 1) * 16 ≤ 140737488355328 := by omega
      have HSZ := Lib.hid (And.intro hz1' hz2')
      have r1 : IntKind.u64.wrap ((i : Int) + 1) = (i : Int) + 1 := IntWalk.u64_in _ (by omega)
      clear hsz htx hx hs2 hz1' hz2' hbl
      go_wp2_with fail
      --REG
      refine wp_region_any (by kernel_rfl) ?_
      try (change wpAny _ _ _ _ _ _ _ (World.drew _))
      refine wpAny_take (i := 0) (v := ?vdv_0) rfl (by kernel_rfl) (by kernel_rfl) (by kernel_rfl) (fun _ _ _ h => h) (Or.inl ⟨by rfl, ?hdv_0⟩) ?rdv_0
      case hdv_0 => (intro w0; go_simp; (try with_reducible rfl))
      try simp only [Act.put, List.setIfInBounds_toArray, List.set_cons_zero, List.set_cons_succ]
      refine wpAny_take (i := 2) (v := ?vdv_1) rfl (by kernel_rfl) (by kernel_rfl) (by kernel_rfl) (fun _ _ _ h => h) (Or.inl ⟨by rfl, ?hdv_1⟩) ?rdv_1
      case hdv_1 => (intro w0; go_simp; (try with_reducible rfl))
      try simp only [Act.put, List.setIfInBounds_toArray, List.set_cons_zero, List.set_cons_succ]
      refine wpAny_ready (rs := [1, 3]) (by kernel_rfl) (by simp) ?_
      refine AllReady.cons rfl (fun K hK => ?adv_3) ?bdv_3
      case adv_3 =>
        go_simp
        refine hK _ _ ?_
        clear hK K
        try simp only [Act.put, List.setIfInBounds_toArray, List.set_cons_zero, List.set_cons_succ]
        refine wpAny_ready (rs := [3]) (by kernel_rfl) (by simp) ?_
        refine AllReady.cons rfl (fun K hK => ?adv_4) ?bdv_4
        case adv_4 =>
          (go_simp; go_at_call 61; (with_reducible refine (HTX.out).mono ?_); rintro e w7 ⟨rfl, hw7, g7⟩; have HA7 := Lib.hid ((HA1.out.drew).read HN.out g7 hw7); have hc7 : w7.cell? ⟨pb, 0, none⟩ = some (.slice ba Bk.length bc) := HA7.out.cell; clear hw7 g7)
          refine hK _ _ ?_
          clear hK K
          try simp only [Act.put, List.setIfInBounds_toArray, List.set_cons_zero, List.set_cons_succ]
          refine wpAny_ready (rs := [4]) (by kernel_rfl) (by simp) ?_
          refine AllReady.cons rfl (fun K hK => ?adv_5) ?bdv_5
          case adv_5 =>
            go_simp
            refine hK _ _ ?_
            clear hK K
            try simp only [Act.put, List.setIfInBounds_toArray, List.set_cons_zero, List.set_cons_succ]
            refine wpAny_ready (rs := [5]) (by kernel_rfl) (by simp) ?_
            refine AllReady.cons rfl (fun K hK => ?adv_6) ?bdv_6
            case adv_6 =>
              (refine step_append_lies _ rfl (.tmp 15) (.tmp 18) 34 rfl (pb + 1) 9 i0 (.string ⟨#[]⟩) 1 16 Tryd.underlying34 hti hz0 hz1 hz2 rfl (by decide) (.slice ba Bk.length bc) Bk.length (strsV Bk) rfl (HA7.out.way.alloc _) ⟨w7.heap.size, 0, none⟩ 1 1 [.string x] rfl rfl (lit_one w7 x) (one_textP x) (Nat.zero_lt_one) HSZ.out.1 HSZ.out.2 (Nat.le_trans HA7.out.size (size_allocP (World.grownBy.refl w7 none) _)) _ rfl ?_; intro g8 c8 w8 ho8 hg8 hor _; rw [push_strs] at ho8; have HPU := Lib.hid (HA7.out.push HN.out hg8 ho8 hor); have h8 := HA7.out.prf8 hg8; have hc8 := h8.1; have hf8 := h8.2; clear h8 ho8 hg8 hor)
              refine hK _ _ ?_
              clear hK K
              try simp only [Act.put, List.setIfInBounds_toArray, List.set_cons_zero, List.set_cons_succ]
              refine wpAny_take (i := 6) (v := ?vdv_6) rfl (by kernel_rfl) (by kernel_rfl) (by kernel_rfl) (fun _ _ _ h => h) (Or.inl ⟨by rfl, ?hdv_6⟩) ?rdv_6
              case hdv_6 => (intro w0; go_simp; (try with_reducible rfl))
              try simp only [Act.put, List.setIfInBounds_toArray, List.set_cons_zero, List.set_cons_succ]
              refine wpAny_ready (rs := [7]) (by kernel_rfl) (by simp) ?_
              refine AllReady.cons rfl (fun K hK => ?adv_8) ?bdv_8
              case adv_8 =>
                go_simp
                refine hK _ _ ?_
                clear hK K
                try simp only [Act.put, List.setIfInBounds_toArray, List.set_cons_zero, List.set_cons_succ]
                refine wpAny_done (by kernel_rfl) ?_ _
                try dsimp only
                (go_wp2_with fail; go_roundw; (case rel => exact ⟨i + 1, by omega, _, Bk ++ [x], by go_num, Lib.hid (by rw [HBk.out, ← HX.out.1]; rfl), Lib.hid (by have := HPU.out; rw [← HX.out.2] at this; exact this)⟩); (case measure => simp [intOf]; omega))
              case bdv_8 =>
                exact AllReady.nil
            case bdv_6 =>
              exact AllReady.nil
          case bdv_5 =>
            exact AllReady.nil
        case bdv_4 =>
          exact AllReady.nil
      case bdv_3 =>
        refine AllReady.cons rfl (fun K hK => ?adv_9) ?bdv_9
        case adv_9 =>
          (go_simp; go_at_call 61; (with_reducible refine (HTX.out).mono ?_); rintro e w7 ⟨rfl, hw7, g7⟩; have HA7 := Lib.hid ((HA1.out.drew).read HN.out g7 hw7); have hc7 : w7.cell? ⟨pb, 0, none⟩ = some (.slice ba Bk.length bc) := HA7.out.cell; clear hw7 g7)
          refine hK _ _ ?_
          clear hK K
          try simp only [Act.put, List.setIfInBounds_toArray, List.set_cons_zero, List.set_cons_succ]
          refine wpAny_ready (rs := [1, 4]) (by kernel_rfl) (by simp) ?_
          refine AllReady.cons rfl (fun K hK => ?adv_10) ?bdv_10
          case adv_10 =>
            go_simp
            refine hK _ _ ?_
            clear hK K
            try simp only [Act.put, List.setIfInBounds_toArray, List.set_cons_zero, List.set_cons_succ]
            refine wpAny_ready (rs := [4]) (by kernel_rfl) (by simp) ?_
            refine AllReady.cons rfl (fun K hK => ?adv_11) ?bdv_11
            case adv_11 =>
              go_simp
              refine hK _ _ ?_
              clear hK K
              try simp only [Act.put, List.setIfInBounds_toArray, List.set_cons_zero, List.set_cons_succ]
              refine wpAny_ready (rs := [5]) (by kernel_rfl) (by simp) ?_
              refine AllReady.cons rfl (fun K hK => ?adv_12) ?bdv_12
              case adv_12 =>
                (refine step_append_lies _ rfl (.tmp 15) (.tmp 18) 34 rfl (pb + 1) 9 i0 (.string ⟨#[]⟩) 1 16 Tryd.underlying34 hti hz0 hz1 hz2 rfl (by decide) (.slice ba Bk.length bc) Bk.length (strsV Bk) rfl (HA7.out.way.alloc _) ⟨w7.heap.size, 0, none⟩ 1 1 [.string x] rfl rfl (lit_one w7 x) (one_textP x) (Nat.zero_lt_one) HSZ.out.1 HSZ.out.2 (Nat.le_trans HA7.out.size (size_allocP (World.grownBy.refl w7 none) _)) _ rfl ?_; intro g8 c8 w8 ho8 hg8 hor _; rw [push_strs] at ho8; have HPU := Lib.hid (HA7.out.push HN.out hg8 ho8 hor); have h8 := HA7.out.prf8 hg8; have hc8 := h8.1; have hf8 := h8.2; clear h8 ho8 hg8 hor)
                refine hK _ _ ?_
                clear hK K
                try simp only [Act.put, List.setIfInBounds_toArray, List.set_cons_zero, List.set_cons_succ]
                refine wpAny_take (i := 6) (v := ?vdv_12) rfl (by kernel_rfl) (by kernel_rfl) (by kernel_rfl) (fun _ _ _ h => h) (Or.inl ⟨by rfl, ?hdv_12⟩) ?rdv_12
                case hdv_12 => (intro w0; go_simp; (try with_reducible rfl))
                try simp only [Act.put, List.setIfInBounds_toArray, List.set_cons_zero, List.set_cons_succ]
                refine wpAny_ready (rs := [7]) (by kernel_rfl) (by simp) ?_
                refine AllReady.cons rfl (fun K hK => ?adv_14) ?bdv_14
                case adv_14 =>
                  go_simp
                  refine hK _ _ ?_
                  clear hK K
                  try simp only [Act.put, List.setIfInBounds_toArray, List.set_cons_zero, List.set_cons_succ]
                  refine wpAny_done (by kernel_rfl) ?_ _
                  try dsimp only
                  (go_wp2_with fail; go_roundw; (case rel => exact ⟨i + 1, by omega, _, Bk ++ [x], by go_num, Lib.hid (by rw [HBk.out, ← HX.out.1]; rfl), Lib.hid (by have := HPU.out; rw [← HX.out.2] at this; exact this)⟩); (case measure => simp [intOf]; omega))
                case bdv_14 =>
                  exact AllReady.nil
              case bdv_12 =>
                exact AllReady.nil
            case bdv_11 =>
              exact AllReady.nil
          case bdv_10 =>
            refine AllReady.cons rfl (fun K hK => ?adv_15) ?bdv_15
            case adv_15 =>
              go_simp
              refine hK _ _ ?_
              clear hK K
              try simp only [Act.put, List.setIfInBounds_toArray, List.set_cons_zero, List.set_cons_succ]
              refine wpAny_ready (rs := [1]) (by kernel_rfl) (by simp) ?_
              refine AllReady.cons rfl (fun K hK => ?adv_16) ?bdv_16
              case adv_16 =>
                (have hc7a : (w7.alloc (.cells #[.string x] 9)).cell? ⟨pb, 0, none⟩ = some (.slice ba Bk.length bc) := (World.grownBy_alloc w7 _ none).cell hc7 (by simp); go_simp)
                refine hK _ _ ?_
                clear hK K
                try simp only [Act.put, List.setIfInBounds_toArray, List.set_cons_zero, List.set_cons_succ]
                refine wpAny_ready (rs := [5]) (by kernel_rfl) (by simp) ?_
                refine AllReady.cons rfl (fun K hK => ?adv_17) ?bdv_17
                case adv_17 =>
                  (refine step_append_lies _ rfl (.tmp 15) (.tmp 18) 34 rfl (pb + 1) 9 i0 (.string ⟨#[]⟩) 1 16 Tryd.underlying34 hti hz0 hz1 hz2 rfl (by decide) (.slice ba Bk.length bc) Bk.length (strsV Bk) rfl (HA7.out.way.alloc _) ⟨w7.heap.size, 0, none⟩ 1 1 [.string x] rfl rfl (lit_one w7 x) (one_textP x) (Nat.zero_lt_one) HSZ.out.1 HSZ.out.2 (Nat.le_trans HA7.out.size (size_allocP (World.grownBy.refl w7 none) _)) _ rfl ?_; intro g8 c8 w8 ho8 hg8 hor _; rw [push_strs] at ho8; have HPU := Lib.hid (HA7.out.push HN.out hg8 ho8 hor); have h8 := HA7.out.prf8 hg8; have hc8 := h8.1; have hf8 := h8.2; clear h8 ho8 hg8 hor)
                  refine hK _ _ ?_
                  clear hK K
                  try simp only [Act.put, List.setIfInBounds_toArray, List.set_cons_zero, List.set_cons_succ]
                  refine wpAny_take (i := 6) (v := ?vdv_17) rfl (by kernel_rfl) (by kernel_rfl) (by kernel_rfl) (fun _ _ _ h => h) (Or.inl ⟨by rfl, ?hdv_17⟩) ?rdv_17
                  case hdv_17 => (intro w0; go_simp; (try with_reducible rfl))
                  try simp only [Act.put, List.setIfInBounds_toArray, List.set_cons_zero, List.set_cons_succ]
                  refine wpAny_ready (rs := [7]) (by kernel_rfl) (by simp) ?_
                  refine AllReady.cons rfl (fun K hK => ?adv_19) ?bdv_19
                  case adv_19 =>
                    go_simp
                    refine hK _ _ ?_
                    clear hK K
                    try simp only [Act.put, List.setIfInBounds_toArray, List.set_cons_zero, List.set_cons_succ]
                    refine wpAny_done (by kernel_rfl) ?_ _
                    try dsimp only
                    (go_wp2_with fail; go_roundw; (case rel => exact ⟨i + 1, by omega, _, Bk ++ [x], by go_num, Lib.hid (by rw [HBk.out, ← HX.out.1]; rfl), Lib.hid (by have := HPU.out; rw [← HX.out.2] at this; exact this)⟩); (case measure => simp [intOf]; omega))
                  case bdv_19 =>
                    exact AllReady.nil
                case bdv_17 =>
                  exact AllReady.nil
              case bdv_16 =>
                exact AllReady.nil
            case bdv_15 =>
              exact AllReady.nil
        case bdv_9 =>
          exact AllReady.nil
      --END REG
    · have e1 : ¬ (i : Int) < (N : Int) := by omega
      have hiN : i = N := by omega
      subst hiN
      have hbsz : (readK A.2 i).2.rest.size ≤ 1000000000 := Nat.le_trans (readK_rest_le A.2 i) HA.out.2.2
      have hD : decS j = ⟨(readK A.2 i).1, ((readK A.2 i).2.num 1).1, ((readK A.2 i).2.num 1).2.text.1, ((readK A.2 i).2.num 1).2.text.2.text.1, ((readK A.2 i).2.num 1).2.text.2.text.2⟩ := by
        unfold decS
        simp only
        rw [HA.out.1, HNN.out]
      have hBk := HBk.out
      obtain ⟨B, hB⟩ : ∃ B, (readK A.2 i).2 = B := ⟨_, rfl⟩
      rw [← hBk, hB] at hD
      rw [hB] at HA1 hbsz
      have hn1 := rd_num1 (s := B) HA1.out.rd (by unfold maxLen; omega)
      obtain ⟨c1, hc1⟩ : ∃ c, (B.num 1).1 = c := ⟨_, rfl⟩
      obtain ⟨s1, hs1⟩ : ∃ c, (B.num 1).2 = c := ⟨_, rfl⟩
      have hs1z : s1.rest.size ≤ 1000000000 := by rw [← hs1]; exact Nat.le_trans (rest_le B 1).1 hbsz
      have hc256 : c1 < 256 := by rw [← hc1]; unfold RSt.num; rw [if_pos ⟨by omega, by omega⟩]; have := val_lt (B.fixed 1).1.data.toList; have h3 := fixed_size B 1; rw [Array.length_toList] at this; have h4 : 256 ^ (B.fixed 1).1.data.size ≤ 256 ^ 1 := Nat.pow_le_pow_right (by decide) h3; omega
      rw [hc1, hs1] at hn1 hD
      obtain ⟨kk, hkk⟩ : ∃ c, s1.text.1 = c := ⟨_, rfl⟩
      obtain ⟨s3, hs3⟩ : ∃ c, s1.text.2 = c := ⟨_, rfl⟩
      have hs3z : s3.rest.size ≤ 1000000000 := by rw [← hs3]; exact Nat.le_trans (text_rest_le s1) hs1z
      rw [hkk, hs3] at hD
      obtain ⟨yy, hyy⟩ : ∃ c, s3.text.1 = c := ⟨_, rfl⟩
      obtain ⟨s4, hs4⟩ : ∃ c, s3.text.2 = c := ⟨_, rfl⟩
      rw [hyy, hs4] at hD
      have HDD := Lib.hid hD
      have HEQ := Lib.hid (And.intro hkk (And.intro hs3 (And.intro hyy (And.intro hs4 (And.intro hs1z hs3z)))))
      have HN1 := Lib.hid hn1
      have HBLn := Lib.hid hbl
      clear hbl hD hBk hB hn1 hc1 hs1 hkk hs3 hyy hs4 hs1z hs3z hbsz hi HBk
      go_wp2_with fail
      refine HN1.out.mono ?_
      rintro e w4 ⟨rfl, hr4, g4⟩
      have H4 := Lib.hid (HA1.out.read HN.out g4 hr4)
      have ht1 := rd_text1 (s := s1) H4.out.rd (by have := HEQ.out.2.2.2.2.1; unfold maxLen; omega)
      rw [HEQ.out.1, HEQ.out.2.1] at ht1
      have HT1 := Lib.hid ht1
      clear hr4 g4 HA1 HN1 ht1
      go_wp2_with fail
      refine HT1.out.mono ?_
      rintro e w5 ⟨rfl, hr5, g5⟩
      have H5 := Lib.hid (H4.out.read HN.out g5 hr5)
      have ht2 := rd_text1 (s := s3) H5.out.rd (by have := HEQ.out.2.2.2.2.2; unfold maxLen; omega)
      rw [HEQ.out.2.2.1, HEQ.out.2.2.2.1] at ht2
      have HT2 := Lib.hid ht2
      clear hr5 g5 H4 HT1 ht2
      go_wp2_with fail
      refine HT2.out.mono ?_
      rintro e w6 ⟨rfl, hr6, g6⟩
      have H6 := Lib.hid (H5.out.read HN.out g6 hr6)
      have q1 : w6.cell? ⟨pb, 1, none⟩ = some (.bool false) := by rw [cell_of H6.out.prf]; rfl
      have q2 : w6.cell? ⟨pb, 2, none⟩ = some (.string ⟨#[]⟩) := by rw [cell_of H6.out.prf]; rfl
      have q3 : w6.cell? ⟨pb, 3, none⟩ = some (.string ⟨#[]⟩) := by rw [cell_of H6.out.prf]; rfl
      have qf : ∀ j, w6.frozen? ⟨pb, j, none⟩ = false := fun j => frozen_of_row _ _ _ _ _ H6.out.prf
      clear hr6 g6 H5 HT2
      go_wp2_with fail
      have hb7 : (((w6.setCell ⟨pb, 1, none⟩ (.bool ((c1 : Int) == 1))).setCell ⟨pb, 2, none⟩ (.string kk)).setCell ⟨pb, 3, none⟩ (.string yy)).heap[pb]? = some (.cells #[.slice ba Bk.length bc, .bool ((c1 : Int) == 1), .string kk, .string yy] 51 (0, 0)) :=
        (heap_setCell (heap_setCell (heap_setCell H6.out.prf 1 (.bool ((c1 : Int) == 1))) 2 (.string kk)) 3 (.string yy)).trans rfl
      have hg7 : w6.grownBy (((w6.setCell ⟨pb, 1, none⟩ (.bool ((c1 : Int) == 1))).setCell ⟨pb, 2, none⟩ (.string kk)).setCell ⟨pb, 3, none⟩ (.string yy)) (some pb) := grownBy_setCell (grownBy_setCell (grownBy_setCell (World.grownBy.refl w6 _) 1 _) 2 _) 3 _
      obtain ⟨W7, hW7⟩ : ∃ W7, ((w6.setCell ⟨pb, 1, none⟩ (.bool ((c1 : Int) == 1))).setCell ⟨pb, 2, none⟩ (.string kk)).setCell ⟨pb, 3, none⟩ (.string yy) = W7 := ⟨_, rfl⟩
      rw [hW7] at hb7 hg7 ⊢
      have hpn : n + 1 < pb := H6.out.lt
      have hres7 : W7.heap[n]? = some (.cells emptyP 51 (0, 0)) := hg7.heap H6.out.res (fun e => by have := Option.some.inj e; omega)
      have hrd7 : RdAt W7 (n + 1) s4.rest s4.err := hg7.heap H6.out.rd (fun e => by have := Option.some.inj e; omega)
      have hwl := H6.out.way.lt
      have hway7 := own_keep H6.out.way hg7 (fun x hx e => by have e2 : pb = x := Option.some.inj e; have := (hwl x hx).1; omega)
      have hgr7 : w.grownBy W7 none := grown_row H6.out.grown hg7 (fun x e => by have e2 : pb = x := Option.some.inj e; have := HN.out; omega)
      have HEND := Lib.hid (end_any W7 (some ⟨n + 1, 0, none⟩) (some s4) ⟨n + 1, rfl, hrd7⟩)
      have H7 := Lib.hid (And.intro hres7 (And.intro hway7 (And.intro hgr7 (And.intro hpn hwl))))
      have t0 : W7.cell? ⟨pb, 0, none⟩ = some (.slice ba Bk.length bc) := by rw [cell_of hb7]; rfl
      have t1 : W7.cell? ⟨pb, 1, none⟩ = some (.bool ((c1 : Int) == 1)) := by rw [cell_of hb7]; rfl
      have t2 : W7.cell? ⟨pb, 2, none⟩ = some (.string kk) := by rw [cell_of hb7]; rfl
      have t3 : W7.cell? ⟨pb, 3, none⟩ = some (.string yy) := by rw [cell_of hb7]; rfl
      have u0 : W7.cell? ⟨n, 0, none⟩ = some (.slice none 0 0) := by rw [cell_of hres7]; rfl
      have u1 : W7.cell? ⟨n, 1, none⟩ = some (.bool false) := by rw [cell_of hres7]; rfl
      have u2 : W7.cell? ⟨n, 2, none⟩ = some (.string ⟨#[]⟩) := by rw [cell_of hres7]; rfl
      have u3 : W7.cell? ⟨n, 3, none⟩ = some (.string ⟨#[]⟩) := by rw [cell_of hres7]; rfl
      have uf : ∀ j, W7.frozen? ⟨n, j, none⟩ = false := fun j => frozen_of_row _ _ _ _ _ hres7
      clear q1 q2 q3 qf hW7 hb7 hg7 hpn hres7 hrd7 hwl hway7 hgr7 H6
      refine HEND.out.mono ?_
      rintro e w8 ⟨rfl, rfl⟩
      obtain ⟨z, hz⟩ : ∃ z, s4.done = z := ⟨_, rfl⟩
      have hzz : ((Option.map (fun s : RSt => s.done) (some s4)).getD 1) = z := hz
      rw [hzz]
      have HZ := Lib.hid hz
      clear hz hzz HEND
      have hzero : ∀ v0 v1 v2 v3, w.grownBy ((((W7.setCell ⟨n, 0, none⟩ v0).setCell ⟨n, 1, none⟩ v1).setCell ⟨n, 2, none⟩ v2).setCell ⟨n, 3, none⟩ v3) none := fun v0 v1 v2 v3 => grown_row H7.out.2.2.1 (grown4 W7 n v0 v1 v2 v3) (fun x e => by have e2 : n = x := Option.some.inj e; have := HN.out; omega)
      have HZERO := Lib.hid hzero
      clear hzero
      by_cases hz0 : z = 0
      · have hzb : (z != 0) = false := by simp [hz0]
        have hzb2 : (z == 0) = true := by simp [hz0]
        subst hz0
        by_cases hbad : 128 < Bk.length ∨ 1 < c1
        · rcases Nat.lt_or_ge 128 Bk.length with hl | hl
          · have e3 : (Bk.length : Int) > 128 := by omega
            clear hzb2
            go_wp2_with fail
            all_goals
              refine bodyPost_ret (results_decode (n := n) (v0 := .slice none 0 0) (v1 := .bool false) (v2 := .string ⟨#[]⟩) (v3 := .string ⟨#[]⟩) rfl rfl (heap4 H7.out.1 _ _ _ _)) rfl ?_
              exact ⟨Or.inr (Or.inl ⟨by rw [HDD.out]; exact HZ.out, by rw [HDD.out]; exact hbad, rfl⟩), HZERO.out _ _ _ _⟩
          · have e3 : ¬ (Bk.length : Int) > 128 := by omega
            have e4 : (c1 : Int) > 1 := by omega
            clear hzb2
            go_wp2_with fail
            all_goals
              refine bodyPost_ret (results_decode (n := n) (v0 := .slice none 0 0) (v1 := .bool false) (v2 := .string ⟨#[]⟩) (v3 := .string ⟨#[]⟩) rfl rfl (heap4 H7.out.1 _ _ _ _)) rfl ?_
              exact ⟨Or.inr (Or.inl ⟨by rw [HDD.out]; exact HZ.out, by rw [HDD.out]; exact hbad, rfl⟩), HZERO.out _ _ _ _⟩
        · have e3 : ¬ (Bk.length : Int) > 128 := by omega
          have e4 : ¬ (c1 : Int) > 1 := by omega
          have hdec : ((c1 : Int) == 1) = decide (c1 = 1) := by rw [Bool.eq_iff_iff]; simp; omega
          clear hzb2
          go_wp2_with fail
          all_goals
            refine bodyPost_ret (results_decode (n := n) (v0 := .slice ba Bk.length bc) (v1 := .bool (decide (c1 = 1))) (v2 := .string kk) (v3 := .string yy) rfl rfl (heap4 H7.out.1 _ _ _ _)) rfl ?_
            refine ⟨Or.inr (Or.inr ⟨by rw [HDD.out]; exact HZ.out, by rw [HDD.out]; show Bk.length ≤ 128; omega, by rw [HDD.out]; show c1 ≤ 1; omega, .slice ba Bk.length bc, by rw [HDD.out], ?_⟩), HZERO.out _ _ _ _⟩
            rw [HDD.out]
            refine own_low (own_keep H7.out.2.1 (grown4 W7 n _ _ _ _) (fun x hx e => by have e2 : n = x := Option.some.inj e; have := (H7.out.2.2.2.2 x hx).1; have := H7.out.2.2.2.1; omega)) ?_
            have := H7.out.2.2.2.1
            have := HN.out
            omega
      · have hzb : (z == 0) = false := by simp [hz0]
        have hzb2 : (z != 0) = true := by simp [hz0]
        go_wp2_with fail
        all_goals
          refine bodyPost_ret (results_decode (n := n) (v0 := .slice none 0 0) (v1 := .bool false) (v2 := .string ⟨#[]⟩) (v3 := .string ⟨#[]⟩) rfl rfl (heap4 H7.out.1 _ _ _ _)) rfl ?_
          exact ⟨Or.inl ⟨by rw [HDD.out]; show s4.done ≠ 0; rw [HZ.out]; exact hz0, by rw [HDD.out]; show _ = Ending.returned (.tuple #[.agg emptyP, .int .i64 s4.done]); rw [HZ.out]; rfl⟩, HZERO.out _ _ _ _⟩
end Go.Proofs.YtheabbknflmnfaaDoor

namespace Go.Proofs.YtheabbknflmnfaaDoor
open Go.RowKit Go.Maps
attribute [local irreducible] shaL

set_option maxHeartbeats 1600000 in
theorem node_short (a : Option Addr) (n c : Nat) (t : Bool) (pk pv key : ByteArray) (w : World) (hk : key.size ≠ 16)
    (hG : ∀ w' : World, Calls Tryd.prog 28 #[.agg #[.slice a n c, .bool t, .string pk, .string pv], .string key, .int .i64 0] w' fun e w'' => e = .returned (.bool false) ∧ w'.grownBy w'' none) :
    Calls Tryd.prog 30 #[.agg #[.slice a n c, .bool t, .string pk, .string pv], .string key, .int .i64 0] w fun e w' => e = .returned (.string ⟨#[]⟩) ∧ w.grownBy w' none := by
  have HG := Lib.hid hG
  have hg0 : w.grownBy (w.alloc (.cells #[.slice a n c, .bool t, .string pk, .string pv] 51)) none := World.grownBy_alloc _ _ _
  clear hG hk
  go_enter Tryd.func30, Tryd.ntmps30
  go_wp2_with fail
  refine (HG.out _).mono ?_
  rintro e w2 ⟨rfl, g2⟩
  have HG2 := Lib.hid (grownBy_trans hg0 g2)
  clear hg0 g2
  go_wp2_with fail
  go_ret
  exact ⟨rfl, HG2.out⟩
set_option maxHeartbeats 1600000 in
theorem after_short (a : Option Addr) (n c : Nat) (t : Bool) (pk pv key v : ByteArray) (w : World) (hk : key.size ≠ 16)
    (hG : ∀ w' : World, Calls Tryd.prog 28 #[.agg #[.slice a n c, .bool t, .string pk, .string pv], .string key, .int .i64 0] w' fun e w'' => e = .returned (.bool false) ∧ w'.grownBy w'' none) :
    Calls Tryd.prog 33 #[.agg #[.slice a n c, .bool t, .string pk, .string pv], .string key, .string v, .int .i64 0] w fun e w' => e = .returned (.tuple #[.string ⟨#[]⟩, .int .i64 18]) ∧ w.grownBy w' none := by
  have HG := Lib.hid hG
  have hg0 : w.grownBy (w.alloc (.cells #[.slice a n c, .bool t, .string pk, .string pv] 51)) none := World.grownBy_alloc _ _ _
  clear hG hk
  go_enter Tryd.func33, Tryd.ntmps33
  go_wp2_with fail
  refine (HG.out _).mono ?_
  rintro e w2 ⟨rfl, g2⟩
  have HG2 := Lib.hid (grownBy_trans hg0 g2)
  clear hg0 g2
  go_wp2_with fail
  go_returns
  exact ⟨rfl, HG2.out⟩
theorem encB_size (L : List ByteArray) (t : Bool) (k y : ByteArray) (hl : L.length ≤ 128) (hL : ∀ x ∈ L, x.size ≤ 4096) (hk : k.size ≤ 4096) (hy : y.size ≤ 4096) : (str (encB L t k y)).size ≤ 1000000 := by
  have h1 := textsB_len L hL
  have h2 : L.length * 4098 ≤ 128 * 4098 := Nat.mul_le_mul_right _ hl
  rw [str_size]
  unfold encB textB
  simp only [List.length_append, be_length]
  have e1 : k.data.toList.length = k.size := rfl
  have e2 : y.data.toList.length = y.size := rfl
  omega
/-- Decode of a proof's own bytes -/
theorem decode_own (L : List ByteArray) (t : Bool) (k y : ByteArray) (hl : L.length ≤ 128) (hL : ∀ x ∈ L, x.size ≤ 4096) (hk : k.size ≤ 4096) (hy : y.size ≤ 4096) (w : World) :
    Calls Tryd.prog 35 #[.string (str (encB L t k y))] w fun e w' => ∃ bv, e = .returned (.tuple #[.agg #[bv, .bool t, .string k, .string y], .int .i64 0]) ∧ w'.ownsRow w.heap.size 9 1 bv L.length (strsV L) ∧ w.grownBy w' none := by
  have hd := dec_enc L t k y hl hL hk hy
  refine (decode_any (str (encB L t k y)) (by have := encB_size L t k y hl hL hk hy; omega) w).mono ?_
  rintro e w' ⟨hp, g⟩
  unfold DecPost at hp
  rw [hd] at hp
  have hdone : (⟨str [], 0⟩ : RSt).done = 0 := by decide
  rcases hp with ⟨h, _⟩ | ⟨_, h, _⟩ | ⟨_, _, _, bv, he, ho⟩
  · exact absurd hdone h
  · rcases h with h | h
    · have : L.length > 128 := h
      omega
    · have : (if t then 1 else 0) > 1 := h
      cases t <;> simp at this
  · refine ⟨bv, ?_, ho, g⟩
    have e1 : decide ((if t then 1 else 0) = 1) = t := by cases t <;> rfl
    rw [he, e1]
end Go.Proofs.YtheabbknflmnfaaDoor
