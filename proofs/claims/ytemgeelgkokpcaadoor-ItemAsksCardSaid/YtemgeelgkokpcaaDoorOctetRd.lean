/- What a Reader reads of bytes that were written. No walk. -/
import Derived.Test.YtemgeelgkokpcaaDoorOctetR
namespace Go.Proofs.YtemgeelgkokpcaaDoor

theorem val_be (n k : Nat) (h : n < 256 ^ k) : val (be n k) = n := by
  induction k generalizing n with
  | zero =>
    have : n = 0 := by simpa using h
    subst this
    rfl
  | succ k ih =>
    rw [be, val_snoc, ih (n / 256) (by rw [Nat.div_lt_iff_lt_mul (by decide)]; rw [Nat.pow_succ] at h; omega)]
    have : (UInt8.ofNat (n % 256)).toNat = n % 256 := by simp
    rw [this]
    omega

theorem fixed_str (a r : List UInt8) : (⟨str (a ++ r), 0⟩ : RSt).fixed (a.length : Int) = (str a, ⟨str r, 0⟩) := by
  have hs : ((str (a ++ r)).size : Int) = a.length + r.length := by simp [str_size]
  unfold RSt.fixed
  simp only
  rw [if_neg (by simp), if_neg (by omega), if_neg (by rw [hs]; omega)]
  have e1 : (str (a ++ r)).extract 0 (a.length : Int).toNat = str a := by
    apply ByteArray.ext
    simp [str]
  have e2 : (str (a ++ r)).extract (a.length : Int).toNat (str (a ++ r)).size = str r := by
    apply ByteArray.ext
    simp [str]
    exact List.take_of_length_le (by show r.length ≤ (a ++ r).length - a.length; simp)
  rw [e1, e2]

theorem rd_num {n : Nat} {k : Int} (h : 1 ≤ k ∧ k ≤ 8 ∧ n < 256 ^ k.toNat) (r : List UInt8) : (⟨str (be n k.toNat ++ r), 0⟩ : RSt).num k = (n, ⟨str r, 0⟩) := by
  obtain ⟨k, rfl⟩ := Int.eq_ofNat_of_zero_le (show 0 ≤ k by omega)
  have hf := fixed_str (be n k) r
  rw [be_length] at hf
  unfold RSt.num
  rw [if_pos ⟨h.1, h.2.1⟩]
  show (val ((⟨str (be n k ++ r), 0⟩ : RSt).fixed k).1.data.toList, ((⟨str (be n k ++ r), 0⟩ : RSt).fixed k).2) = _
  rw [hf]
  show (val (be n k), _) = _
  rw [val_be n k (by simpa using h.2.2)]

theorem str_self (t : ByteArray) : str t.data.toList = t := by
  apply ByteArray.ext
  simp [str]

theorem rd_fixed (t : ByteArray) (r : List UInt8) : (⟨str (t.data.toList ++ r), 0⟩ : RSt).fixed (t.size : Int) = (t, ⟨str r, 0⟩) := by
  have hf := fixed_str t.data.toList r
  rw [str_self] at hf
  simpa using hf

theorem rd_text {t : ByteArray} (h : t.size ≤ 4096) (r : List UInt8) : (⟨str ((be t.size 2 ++ t.data.toList) ++ r), 0⟩ : RSt).text = (t, ⟨str r, 0⟩) := by
  have hn := rd_num (n := t.size) (k := 2) ⟨by omega, by omega, by show t.size < 65536; omega⟩ (t.data.toList ++ r)
  have h2 : (2 : Int).toNat = 2 := rfl
  rw [h2] at hn
  unfold RSt.text
  rw [List.append_assoc, hn]
  simp only
  rw [if_neg (by omega), rd_fixed]
end Go.Proofs.YtemgeelgkokpcaaDoor
