/- OctetWrites, without a walk: what the document's answer, a Writer and a Reader come to. -/
import Derived.Test.YtgolffjiepcbpaaOctetF
import Derived.Test.YtgolffjiepcbpaaOctetB
namespace Go.Proofs.Ytgolffjiepcbpaa.octetWrites
open Go.RowKit

structure PartV where
  what : Int
  n : Nat
  size : Int
  text : ByteArray

/-- which of the three it is -/
def PartV.kind (p : PartV) : Int := (p.what.tmod 3 + 3) % 3
/-- the document's bytes of a part, and its error -/
def PartV.enc (p : PartV) : List UInt8 := if p.kind = 0 then refNum p.n p.size else if p.kind = 1 then refNum p.text.size 2 ++ p.text.data.toList else p.text.data.toList
def PartV.code (p : PartV) : Int := if p.kind = 0 then (if refNum p.n p.size = [] then 10 else 0) else if p.kind = 1 then (if 4096 < p.text.size then 2 else 0) else (if (p.text.size : Int) = p.size then 0 else 10)
/-- a Writer behind a part -/
def PartV.wr (p : PartV) (s : WSt) : WSt := if p.kind = 0 then s.num p.n p.size else if p.kind = 1 then s.text p.text else s.fixed p.text p.size
/-- what the law keeps: the bytes, the first error -/
def PartV.acc (p : PartV) (a : List UInt8 × Int) : List UInt8 × Int := if a.2 = 0 then (a.1 ++ p.enc, p.code) else a
def accTo (L : Nat → PartV) : Nat → List UInt8 × Int
  | 0 => ([], 0)
  | i + 1 => (L i).acc (accTo L i)
def wrTo (L : Nat → PartV) : Nat → WSt
  | 0 => ⟨[], 0⟩
  | i + 1 => (L i).wr (wrTo L i)

section
variable {what : Int} {n : Nat} {size : Int} {text : ByteArray} (s : WSt)
theorem of0 (h : (PartV.mk what n size text).kind = 0) : (PartV.mk what n size text).enc = refNum n size ∧ (PartV.mk what n size text).code = (if refNum n size = [] then 10 else 0) ∧ (PartV.mk what n size text).wr s = s.num n size := by
  simp [PartV.enc, PartV.code, PartV.wr, h]
theorem of1 (h : (PartV.mk what n size text).kind = 1) : (PartV.mk what n size text).enc = refNum text.size 2 ++ text.data.toList ∧ (PartV.mk what n size text).code = (if 4096 < text.size then 2 else 0) ∧ (PartV.mk what n size text).wr s = s.text text := by
  simp [PartV.enc, PartV.code, PartV.wr, h]
theorem of2 (h : (PartV.mk what n size text).kind = 2) : (PartV.mk what n size text).enc = text.data.toList ∧ (PartV.mk what n size text).code = (if (text.size : Int) = size then 0 else 10) ∧ (PartV.mk what n size text).wr s = s.fixed text size := by
  simp [PartV.enc, PartV.code, PartV.wr, h]
end

theorem refNum_fits {n : Nat} {k : Int} (h : 1 ≤ k ∧ k ≤ 8 ∧ n < 256 ^ k.toNat) : refNum n k = be n k.toNat ∧ refNum n k ≠ [] := by
  have e : refNum n k = be n k.toNat := by unfold refNum; rw [if_pos h]
  refine ⟨e, ?_⟩
  intro h0
  have := be_length n k.toNat
  rw [← e, h0] at this
  simp at this
  omega
theorem refNum_not {n : Nat} {k : Int} (h : ¬ (1 ≤ k ∧ k ≤ 8 ∧ n < 256 ^ k.toNat)) : refNum n k = [] := by unfold refNum; rw [if_neg h]
theorem two16 {n : Nat} (h : n ≤ 4096) : n < 256 ^ (2 : Int).toNat := by
  have : (256 : Nat) ^ (2 : Int).toNat = 65536 := by decide
  omega
theorem refNum_len {n : Nat} (h : n ≤ 4096) : refNum n 2 = be n 2 := (refNum_fits ⟨by omega, by omega, two16 h⟩).1
theorem refNum_le (n : Nat) (k : Int) : (refNum n k).length ≤ 8 := by
  unfold refNum
  split
  · rw [be_length]; omega
  · simp

/-- a Writer in step with the law -/
structure Inv (s : WSt) (a : List UInt8 × Int) (B : Nat) : Prop where
  err : s.err = a.2
  flat : a.2 = 0 → Go.Proofs.Ytgolffjiepcbpaa.flat s.ts = a.1
  small : total s.ts ≤ B

theorem put_err0 {s : WSt} (h : s.err = 0) (t : ByteArray) : (s.put t) = ⟨t :: s.ts, 0⟩ := by simp [WSt.put, h]
theorem fail_err0 {s : WSt} (h : s.err = 0) (e : Int) : (s.fail e) = ⟨s.ts, e⟩ := by simp [WSt.fail, h]
theorem put_errn {s : WSt} (h : s.err ≠ 0) (t : ByteArray) : (s.put t) = s := by simp [WSt.put, h]
theorem fail_errn {s : WSt} (h : s.err ≠ 0) (e : Int) : (s.fail e) = s := by simp [WSt.fail, h]

theorem inv_step {s : WSt} {a : List UInt8 × Int} {B : Nat} (h : Inv s a B) (p : PartV) (hp : p.text.size ≤ 1048576) : Inv (p.wr s) (p.acc a) (B + 1048600) := by
  obtain ⟨what, n, size, text⟩ := p
  simp only at hp
  obtain ⟨h1, h2, h3⟩ := h
  by_cases he : s.err = 0
  · have ha : a.2 = 0 := by rw [← h1]; exact he
    have hf := h2 ha
    have hacc : (PartV.mk what n size text).acc a = (a.1 ++ (PartV.mk what n size text).enc, (PartV.mk what n size text).code) := by simp [PartV.acc, ha]
    rw [hacc]
    have hk : (PartV.mk what n size text).kind = 0 ∨ (PartV.mk what n size text).kind = 1 ∨ (PartV.mk what n size text).kind = 2 := by unfold PartV.kind; omega
    rcases hk with hk | hk | hk
    · obtain ⟨e1, e2, e3⟩ := of0 s hk
      rw [e1, e2, e3]
      by_cases hfit : 1 ≤ size ∧ size ≤ 8 ∧ n < 256 ^ size.toNat
      · obtain ⟨f1, f2⟩ := refNum_fits hfit
        rw [if_neg f2]
        unfold WSt.num
        rw [if_pos hfit, put_err0 he]
        refine ⟨rfl, fun _ => ?_, ?_⟩
        · rw [f1, ← hf]; rfl
        · rw [total_cons, str_size, be_length]; omega
      · rw [if_pos (refNum_not hfit)]
        unfold WSt.num
        rw [if_neg hfit, fail_err0 he]
        exact ⟨rfl, fun h => (by exact absurd h (by simp)), by show total s.ts ≤ _; omega⟩
    · obtain ⟨e1, e2, e3⟩ := of1 s hk
      rw [e1, e2, e3]
      by_cases hS : text.size ≤ 4096
      · rw [if_neg (by omega), refNum_len hS]
        unfold WSt.text
        rw [if_pos hS, put_err0 he, put_err0 rfl]
        refine ⟨rfl, fun _ => ?_, ?_⟩
        · rw [← hf]
          show (Go.Proofs.Ytgolffjiepcbpaa.flat s.ts ++ be text.size 2) ++ text.data.toList = _
          simp [Go.Proofs.Ytgolffjiepcbpaa.flat]
        · rw [total_cons, total_cons, str_size, be_length]; omega
      · rw [if_pos (by omega)]
        unfold WSt.text
        rw [if_neg hS, fail_err0 he]
        exact ⟨rfl, fun h => (by exact absurd h (by simp)), by show total s.ts ≤ _; omega⟩
    · obtain ⟨e1, e2, e3⟩ := of2 s hk
      rw [e1, e2, e3]
      by_cases hS : (text.size : Int) = size
      · rw [if_pos hS]
        unfold WSt.fixed
        rw [if_pos hS, put_err0 he]
        refine ⟨rfl, fun _ => ?_, ?_⟩
        · rw [← hf]; rfl
        · rw [total_cons]; omega
      · rw [if_neg hS]
        unfold WSt.fixed
        rw [if_neg hS, fail_err0 he]
        exact ⟨rfl, fun h => (by exact absurd h (by simp)), by show total s.ts ≤ _; omega⟩
  · have ha : a.2 ≠ 0 := by rw [← h1]; exact he
    have hacc : (PartV.mk what n size text).acc a = a := by simp [PartV.acc, ha]
    have hwr : (PartV.mk what n size text).wr s = s := by
      unfold PartV.wr WSt.num WSt.text WSt.fixed
      simp only [put_errn he, fail_errn he, ite_self]
    rw [hacc, hwr]
    exact ⟨h1, h2, by omega⟩

theorem inv_to (L : Nat → PartV) (m : Nat) (hL : ∀ i, i < m → (L i).text.size ≤ 1048576) : Inv (wrTo L m) (accTo L m) (m * 1048600) := by
  induction m with
  | zero => exact ⟨rfl, fun _ => rfl, Nat.zero_le _⟩
  | succ m ih =>
    have := inv_step (ih fun i hi => hL i (by omega)) (L m) (hL m (by omega))
    rw [Nat.succ_mul]
    exact this

/-! reading again -/
theorem val_be (n k : Nat) (h : n < 256 ^ k) : val (be n k) = n := by
  induction k generalizing n with
  | zero =>
    have : n = 0 := by simpa using h
    subst this
    rfl
  | succ k ih =>
    rw [be, val_snoc, ih (n / 256) (by rw [Nat.div_lt_iff_lt_mul (by decide)]; rw [Nat.pow_succ] at h; omega)]
    have : (UInt8.ofNat (n % 256)).toNat = n % 256 := by simp
    rw [this]
    omega

theorem fixed_str (a r : List UInt8) : (⟨str (a ++ r), 0⟩ : RSt).fixed (a.length : Int) = (str a, ⟨str r, 0⟩) := by
  have hs : ((str (a ++ r)).size : Int) = a.length + r.length := by simp [str_size]
  unfold RSt.fixed
  simp only
  rw [if_neg (by simp), if_neg (by omega), if_neg (by rw [hs]; omega)]
  have e1 : (str (a ++ r)).extract 0 (a.length : Int).toNat = str a := by
    apply ByteArray.ext
    simp [str]
  have e2 : (str (a ++ r)).extract (a.length : Int).toNat (str (a ++ r)).size = str r := by
    apply ByteArray.ext
    simp [str]
    exact List.take_of_length_le (by show r.length ≤ (a ++ r).length - a.length; simp)
  rw [e1, e2]

theorem rd_num {n : Nat} {k : Int} (h : 1 ≤ k ∧ k ≤ 8 ∧ n < 256 ^ k.toNat) (r : List UInt8) : (⟨str (be n k.toNat ++ r), 0⟩ : RSt).num k = (n, ⟨str r, 0⟩) := by
  obtain ⟨k, rfl⟩ := Int.eq_ofNat_of_zero_le (show 0 ≤ k by omega)
  have hf := fixed_str (be n k) r
  rw [be_length] at hf
  unfold RSt.num
  rw [if_pos ⟨h.1, h.2.1⟩]
  show (val ((⟨str (be n k ++ r), 0⟩ : RSt).fixed k).1.data.toList, ((⟨str (be n k ++ r), 0⟩ : RSt).fixed k).2) = _
  rw [hf]
  show (val (be n k), _) = _
  rw [val_be n k (by simpa using h.2.2)]

theorem str_self (t : ByteArray) : str t.data.toList = t := by
  apply ByteArray.ext
  simp [str]

theorem rd_fixed (t : ByteArray) (r : List UInt8) : (⟨str (t.data.toList ++ r), 0⟩ : RSt).fixed (t.size : Int) = (t, ⟨str r, 0⟩) := by
  have hf := fixed_str t.data.toList r
  rw [str_self] at hf
  simpa using hf

theorem rd_text {t : ByteArray} (h : t.size ≤ 4096) (r : List UInt8) : (⟨str ((be t.size 2 ++ t.data.toList) ++ r), 0⟩ : RSt).text = (t, ⟨str r, 0⟩) := by
  have hn := rd_num (n := t.size) (k := 2) ⟨by omega, by omega, two16 h⟩ (t.data.toList ++ r)
  have h2 : (2 : Int).toNat = 2 := rfl
  rw [h2] at hn
  unfold RSt.text
  rw [List.append_assoc, hn]
  simp only
  rw [if_neg (by omega), rd_fixed]

/-- the bytes of k parts, from the one at place j on -/
def suf (L : Nat → PartV) (j : Nat) : Nat → List UInt8
  | 0 => []
  | k + 1 => (L j).enc ++ suf L (j + 1) k
theorem suf_snoc (L : Nat → PartV) (j k : Nat) : suf L j (k + 1) = suf L j k ++ (L (j + k)).enc := by
  induction k generalizing j with
  | zero => simp [suf]
  | succ k ih =>
    rw [suf, ih (j + 1), suf]
    simp [Nat.add_assoc, Nat.add_comm 1 k]

theorem acc_good (L : Nat → PartV) (m : Nat) (h : (accTo L m).2 = 0) : (accTo L m).1 = suf L 0 m ∧ ∀ i, i < m → (L i).code = 0 := by
  induction m with
  | zero => exact ⟨rfl, fun i hi => absurd hi (by omega)⟩
  | succ m ih =>
    have hm : (accTo L m).2 = 0 := by
      apply Decidable.byContradiction
      intro h0
      have : accTo L (m + 1) = accTo L m := by simp [accTo, PartV.acc, h0]
      rw [this] at h
      exact h0 h
    obtain ⟨h1, h2⟩ := ih hm
    have e : accTo L (m + 1) = ((accTo L m).1 ++ (L m).enc, (L m).code) := by simp [accTo, PartV.acc, hm]
    rw [e] at h ⊢
    refine ⟨?_, fun i hi => ?_⟩
    · rw [suf_snoc, ← h1]
      simp
    · by_cases him : i = m
      · subst him; exact h
      · exact h2 i (by omega)
end Go.Proofs.Ytgolffjiepcbpaa.octetWrites
