/- Plain functions for package wots: places, secrets, walks, public keys. No walk of the program. · SHA-256 on great numbers, made for the kernel's own arithmetic; it is the digest on bytes. No walk of the program. · Digests of texts as great numbers. No walk of the program. · A stream of numbers: what it holds in memory, its next number, the next one below another. · sha.Tagged of texts in a new block. · The walks of a Stream's next and Below (where its next number is small enough). · The walks of window's rising, count, Needed, Slot; of slices.Index at integers. · The four bytes of a number. No walk. · Out of the listed variables: package sha's two tables in memory; and a world for the witness. · Texts out of rows of bytes. No walk. -/
import Derived.Test.YtioahjdojgcfdaaDoorShaCalls
import Derived.Test.YtioahjdojgcfdaaDoorWindowMeetsB1
import Derived.KernelRfl
import Derived.Deep.DeepCutAuto
import Derived.Test.YtioahjdojgcfdaaDoorCards
import Derived.Test.YtioahjdojgcfdaaDoorTie
import Derived.Lib.LaidIn
import Derived.Lib.LaidU8T
import Derived.Deep.DeepHandedRow
import Derived.Deep.DeepWitnessRowRef
import Derived.ProofKit
import Derived.OpenShut
import Derived.ShutString
import Derived.Laws.IdiomStrings
namespace Go.Proofs.YtioahjdojgcfdaaDoor
attribute [local irreducible] shaL

/-- the short digest of a tag and texts -/
def tagS (tag : UInt8) (L : List ByteArray) : ByteArray := str ((shaL (tagB tag L)).take 16)
theorem tagS_size (tag : UInt8) (L : List ByteArray) : (tagS tag L).size = 16 := by
  unfold tagS
  rw [str_size, List.length_take, shaL_length]
  rfl
def placeL (leaf chain step : Nat) : List UInt8 := be leaf 4 ++ [UInt8.ofNat chain, UInt8.ofNat step]
def placeS (leaf chain step : Nat) : ByteArray := str (placeL leaf chain step)
theorem placeS_size (leaf chain step : Nat) : (placeS leaf chain step).size = 6 := by
  unfold placeS placeL
  rw [str_size, List.length_append, be_length]
  rfl
def openS (seed : ByteArray) : ByteArray := tagS 3 [seed]
def stepS (o : ByteArray) (leaf chain k : Nat) (x : ByteArray) : ByteArray := tagS 2 [o, placeS leaf chain k, x]
/-- n steps, from step a on -/
def walkS (o : ByteArray) (leaf chain a : Nat) : Nat → ByteArray → ByteArray
  | 0, x => x
  | n + 1, x => stepS o leaf chain (a + n) (walkS o leaf chain a n x)
theorem walkS_zero (o : ByteArray) (leaf chain a : Nat) (x : ByteArray) : walkS o leaf chain a 0 x = x := rfl
theorem walkS_succ (o : ByteArray) (leaf chain a n : Nat) (x : ByteArray) : walkS o leaf chain a (n + 1) x = stepS o leaf chain (a + n) (walkS o leaf chain a n x) := rfl
theorem walkS_add (o : ByteArray) (leaf chain a m n : Nat) (x : ByteArray) : walkS o leaf chain (a + m) n (walkS o leaf chain a m x) = walkS o leaf chain a (m + n) x := by
  induction n with
  | zero => rfl
  | succ n ih => rw [walkS_succ, ih, ← Nat.add_assoc, walkS_succ, Nat.add_assoc]
theorem walkS_size (o : ByteArray) (leaf chain a n : Nat) (x : ByteArray) (N : Nat) (h : x.size ≤ N) (h16 : 16 ≤ N) : (walkS o leaf chain a n x).size ≤ N := by
  cases n with
  | zero => exact h
  | succ n => rw [walkS_succ]; unfold stepS; rw [tagS_size]; exact h16
theorem walkS_16 (o : ByteArray) (leaf chain a n : Nat) (x : ByteArray) (h : x.size = 16) : (walkS o leaf chain a n x).size = 16 := by
  cases n with
  | zero => exact h
  | succ n => rw [walkS_succ]; unfold stepS; rw [tagS_size]
/-- from and to as they come: below 0 as 0, above 15 as 15 -/
def walkZ (o : ByteArray) (leaf chain : Nat) (a b : Int) (x : ByteArray) : ByteArray := walkS o leaf chain (max a 0).toNat (min b 15 - max a 0).toNat x
def secretS (seed : ByteArray) (leaf chain : Nat) : ByteArray := tagS 1 [seed, placeS leaf chain 0]
def publicOfS (o : ByteArray) (leaf : Nat) (ends : List ByteArray) : ByteArray := tagS 4 ([o, placeS leaf 0 0] ++ ends)
def endsS (seed : ByteArray) (leaf : Nat) : Nat → List ByteArray
  | 0 => []
  | c + 1 => endsS seed leaf c ++ [walkS (openS seed) leaf c 0 15 (secretS seed leaf c)]
def publicS (seed : ByteArray) (leaf : Nat) : ByteArray := publicOfS (openS seed) leaf (endsS seed leaf 35)
/-- a signature's first c texts -/
def sigS (seed : ByteArray) (leaf : Nat) (d : List Int) : Nat → List ByteArray
  | 0 => []
  | c + 1 => sigS seed leaf d c ++ [walkS (openS seed) leaf c 0 (d.getD c 0).toNat (secretS seed leaf c)]
/-- the first c ends of what a signature's texts are walked to -/
def recS (o : ByteArray) (leaf : Nat) (d : List Int) (sig : List ByteArray) : Nat → List ByteArray
  | 0 => []
  | c + 1 => recS o leaf d sig c ++ [walkS o leaf c (d.getD c 0).toNat (15 - d.getD c 0).toNat (sig.getD c ByteArray.empty)]
theorem endsS_length (seed : ByteArray) (leaf c : Nat) : (endsS seed leaf c).length = c := by
  induction c with
  | zero => rfl
  | succ c ih => simp [endsS, ih]
theorem sigS_length (seed : ByteArray) (leaf : Nat) (d : List Int) (c : Nat) : (sigS seed leaf d c).length = c := by
  induction c with
  | zero => rfl
  | succ c ih => simp [sigS, ih]
theorem recS_length (o : ByteArray) (leaf : Nat) (d : List Int) (sig : List ByteArray) (c : Nat) : (recS o leaf d sig c).length = c := by
  induction c with
  | zero => rfl
  | succ c ih => simp [recS, ih]
theorem sigS_at (seed : ByteArray) (leaf : Nat) (d : List Int) (c i : Nat) (h : i < c) : (sigS seed leaf d c)[i]? = some (walkS (openS seed) leaf i 0 (d.getD i 0).toNat (secretS seed leaf i)) := by
  induction c with
  | zero => omega
  | succ c ih =>
    rw [sigS]
    by_cases e : i = c
    · subst e
      rw [List.getElem?_append_right (by rw [sigS_length]; omega), sigS_length, Nat.sub_self]
      rfl
    · rw [List.getElem?_append_left (by rw [sigS_length]; omega), ih (by omega)]
theorem secretS_size (seed : ByteArray) (leaf chain : Nat) : (secretS seed leaf chain).size = 16 := tagS_size _ _
theorem openS_size (seed : ByteArray) : (openS seed).size = 16 := tagS_size _ _
theorem sigS_all (seed : ByteArray) (leaf : Nat) (d : List Int) (c : Nat) : ∀ s ∈ sigS seed leaf d c, s.size = 16 := by
  induction c with
  | zero => intro s h; cases h
  | succ c ih =>
    intro s h
    rw [sigS] at h
    rcases List.mem_append.1 h with h | h
    · exact ih s h
    · obtain rfl := List.mem_singleton.1 h
      exact walkS_16 _ _ _ _ _ _ (secretS_size _ _ _)
theorem endsS_all (seed : ByteArray) (leaf c : Nat) : ∀ s ∈ endsS seed leaf c, s.size = 16 := by
  induction c with
  | zero => intro s h; cases h
  | succ c ih =>
    intro s h
    rw [endsS] at h
    rcases List.mem_append.1 h with h | h
    · exact ih s h
    · obtain rfl := List.mem_singleton.1 h
      exact walkS_16 _ _ _ _ _ _ (secretS_size _ _ _)
theorem recS_all (o : ByteArray) (leaf : Nat) (d : List Int) (sig : List ByteArray) (hs : ∀ s ∈ sig, s.size = 16) (c : Nat) (hc : c ≤ sig.length) : ∀ s ∈ recS o leaf d sig c, s.size = 16 := by
  induction c with
  | zero => intro s h; cases h
  | succ c ih =>
    intro s h
    rw [recS] at h
    rcases List.mem_append.1 h with h | h
    · exact ih (by omega) s h
    · obtain rfl := List.mem_singleton.1 h
      refine walkS_16 _ _ _ _ _ _ (hs _ ?_)
      rw [List.getD_eq_getElem?_getD, List.getElem?_eq_getElem (by omega)]
      exact List.getElem_mem _
/-- P6.3: what a signature tells is the public key -/
theorem rec_sig (seed : ByteArray) (leaf : Nat) (d : List Int) (hd : ∀ x ∈ d, 0 ≤ x ∧ x ≤ 15) (n : Nat) (hn : n ≤ d.length) (c : Nat) (hc : c ≤ n) : recS (openS seed) leaf d (sigS seed leaf d n) c = endsS seed leaf c := by
  induction c with
  | zero => rfl
  | succ c ih =>
    rw [recS, endsS, ih (by omega)]
    have h1 := sigS_at seed leaf d n c (by omega)
    rw [List.getD_eq_getElem?_getD (l := sigS seed leaf d n), h1]
    have hx := hd (d.getD c 0) (by rw [List.getD_eq_getElem?_getD, List.getElem?_eq_getElem (by omega)]; exact List.getElem_mem _)
    simp only [Option.getD_some]
    have e := walkS_add (openS seed) leaf c 0 (d.getD c 0).toNat (15 - d.getD c 0).toNat (secretS seed leaf c)
    rw [Nat.zero_add] at e
    rw [e, show (d.getD c 0).toNat + (15 - d.getD c 0).toNat = 15 from by omega]
/-- a tagged text's length -/
theorem tagB_length (tag : UInt8) (L : List ByteArray) (N : Nat) (h : ∀ s ∈ L, s.size ≤ N) : (tagB tag L).length ≤ 1 + L.length * (4 + N) := by
  unfold tagB
  rw [List.length_cons]
  suffices (L.flatMap fun s => be s.size 4 ++ s.data.toList).length ≤ L.length * (4 + N) by omega
  induction L with
  | nil => simp
  | cons s L ih =>
    have := ih (fun t ht => h t (by simp [ht]))
    have hs := h s (by simp)
    rw [List.flatMap_cons, List.length_append, List.length_append, be_length, List.length_cons, Nat.succ_mul]
    have e : s.data.toList.length = s.size := rfl
    omega
end Go.Proofs.YtioahjdojgcfdaaDoor

namespace Go.Proofs.YtioahjdojgcfdaaDoor

/-! digits -/
/-- digits to a base, the highest first -/
def num (B : Nat) (l : List Nat) : Nat := l.foldl (fun a x => a * B + x) 0
theorem num_foldl (B : Nat) (l : List Nat) (a : Nat) : l.foldl (fun a x => a * B + x) a = a * B ^ l.length + num B l := by
  induction l generalizing a with
  | nil => simp [num]
  | cons x l ih =>
    rw [num, List.foldl_cons, List.foldl_cons, ih, ih, List.length_cons, Nat.pow_succ, Nat.add_mul, Nat.zero_mul, Nat.zero_add, Nat.mul_assoc, Nat.mul_comm B, Nat.add_assoc]
theorem num_append (B : Nat) (l m : List Nat) : num B (l ++ m) = num B l * B ^ m.length + num B m := by
  rw [num, List.foldl_append, num_foldl]
  rfl
theorem num_one (B x : Nat) : num B [x] = x := by simp [num]
theorem num_cons (B x : Nat) (l : List Nat) : num B (x :: l) = x * B ^ l.length + num B l := by
  rw [← List.singleton_append, num_append, num_one]
theorem num_lt (B : Nat) (hB : 0 < B) (l : List Nat) (h : ∀ x ∈ l, x < B) : num B l < B ^ l.length := by
  induction l with
  | nil => simp [num]
  | cons x l ih =>
    have h1 := ih fun y hy => h y (List.mem_cons_of_mem _ hy)
    have h2 := h x List.mem_cons_self
    rw [num_cons, List.length_cons, Nat.pow_succ]
    have : (x + 1) * B ^ l.length ≤ B * B ^ l.length := Nat.mul_le_mul_right _ h2
    rw [Nat.add_mul, Nat.one_mul, Nat.mul_comm B] at this
    omega
theorem num_split (B : Nat) (hB : 0 < B) (a b c : List Nat) (ha : ∀ x ∈ b, x < B) (hc : ∀ x ∈ c, x < B) : num B (a ++ b ++ c) / B ^ c.length % B ^ b.length = num B b := by
  have h1 := num_lt B hB c hc
  have h2 := num_lt B hB b ha
  have hp : 0 < B ^ c.length := Nat.pow_pos hB
  rw [num_append, Nat.mul_comm _ (B ^ c.length), Nat.mul_add_div hp, Nat.div_eq_of_lt h1, Nat.add_zero, num_append, Nat.mul_comm _ (B ^ b.length), Nat.mul_add_mod, Nat.mod_eq_of_lt h2]
theorem num_sub (B : Nat) (hB : 0 < B) (l : List Nat) (h : ∀ x ∈ l, x < B) (i k : Nat) (hi : i + k ≤ l.length) : num B ((l.drop i).take k) = num B l / B ^ (l.length - i - k) % B ^ k := by
  have e : l = l.take i ++ (l.drop i).take k ++ (l.drop i).drop k := by rw [List.append_assoc, List.take_append_drop, List.take_append_drop]
  have hs := num_split B hB (l.take i) ((l.drop i).take k) ((l.drop i).drop k) (fun x hx => h x (List.mem_of_mem_drop (List.mem_of_mem_take hx))) (fun x hx => h x (List.mem_of_mem_drop (List.mem_of_mem_drop hx)))
  rw [← e] at hs
  rw [← hs]
  have l1 : ((l.drop i).drop k).length = l.length - i - k := by simp; omega
  have l2 : ((l.drop i).take k).length = k := by simp; omega
  rw [l1, l2]
theorem num_at (B : Nat) (hB : 0 < B) (l : List Nat) (h : ∀ x ∈ l, x < B) (i : Nat) (hi : i < l.length) : num B l / B ^ (l.length - 1 - i) % B = l[i] := by
  have := num_sub B hB l h i 1 (by omega)
  rw [Nat.pow_one, show l.length - i - 1 = l.length - 1 - i from by omega] at this
  rw [← this, List.drop_eq_getElem_cons hi, List.take_succ_cons, List.take_zero, num_one]

/-! bytes -/
def numB (l : List UInt8) : Nat := num 256 (l.map UInt8.toNat)
theorem bytes_lt (l : List UInt8) : ∀ x ∈ l.map UInt8.toNat, x < 256 := by
  intro x hx
  obtain ⟨b, _, rfl⟩ := List.mem_map.1 hx
  exact b.toNat_lt
theorem numB_append (l m : List UInt8) : numB (l ++ m) = numB l * 256 ^ m.length + numB m := by
  unfold numB
  rw [List.map_append, num_append, List.length_map]
theorem numB_lt (l : List UInt8) : numB l < 256 ^ l.length := by
  have := num_lt 256 (by decide) _ (bytes_lt l)
  rwa [List.length_map] at this
theorem numB_sub (l : List UInt8) (i k : Nat) (h : i + k ≤ l.length) : numB ((l.drop i).take k) = numB l / 256 ^ (l.length - i - k) % 256 ^ k := by
  have := num_sub 256 (by decide) (l.map UInt8.toNat) (bytes_lt l) i k (by rw [List.length_map]; exact h)
  rw [List.length_map] at this
  rw [numB, numB, ← this, List.map_take, List.map_drop]
theorem numB_be (n k : Nat) : numB (be n k) = n % 256 ^ k := by
  induction k generalizing n with
  | zero => simp [be, numB, num, Nat.mod_one]
  | succ k ih =>
    rw [be, numB_append, ih, Nat.pow_succ]
    have e : numB [UInt8.ofNat (n % 256)] = n % 256 := by simp [numB, num]
    rw [e, List.length_singleton, Nat.pow_one, Nat.mul_comm (256 ^ k), Nat.mod_mul]
    omega
theorem numB_zeros (k : Nat) : numB (List.replicate k 0) = 0 := by
  induction k with
  | zero => rfl
  | succ k ih =>
    rw [List.replicate_succ', numB_append, ih]
    rfl
theorem be_numB (l : List UInt8) : be (numB l) l.length = l := by
  have h : ∀ (k : Nat) (l : List UInt8), l.length = k → be (numB l) k = l := by
    intro k
    induction k with
    | zero => intro l hl; rw [List.length_eq_zero_iff.1 hl]; rfl
    | succ k ih =>
      intro l hl
      obtain ⟨m, x, rfl⟩ : ∃ m x, l = m ++ [x] := by
        rcases List.eq_nil_or_concat l with h | ⟨m, x, h⟩
        · rw [h] at hl; simp at hl
        · exact ⟨m, x, by rw [h, List.concat_eq_append]⟩
      have hm : m.length = k := by simp at hl; exact hl
      have e : numB [x] = x.toNat := by simp [numB, num]
      have hx := x.toNat_lt
      rw [be, numB_append, e, List.length_singleton, Nat.pow_one]
      rw [show (numB m * 256 + x.toNat) / 256 = numB m from by omega, show (numB m * 256 + x.toNat) % 256 = x.toNat from by omega, ih m hm]
      simp
  exact h _ l rfl

/-! the compression -/
def w32 : Nat := 4294967296
/-- rounds: the words ahead as one number -/
noncomputable def goF (ks : List Nat) : Nat → Nat → Nat → Nat → Nat → Nat → Nat → Nat → Nat → Nat :=
  List.rec (motive := fun _ => Nat → Nat → Nat → Nat → Nat → Nat → Nat → Nat → Nat → Nat)
    (fun a b c d e f g h _ => ((((((a * 4294967296 + b) * 4294967296 + c) * 4294967296 + d) * 4294967296 + e) * 4294967296 + f) * 4294967296 + g) * 4294967296 + h)
    (fun k _ ih a b c d e f g h W =>
      (fun t u => ih ((t + (Nat.xor (Nat.xor (Nat.shiftRight (a * 4294967297) 2) (Nat.shiftRight (a * 4294967297) 13)) (Nat.shiftRight (a * 4294967297) 22) + Nat.xor (Nat.land a b) (Nat.land c (Nat.xor a b)))) % 4294967296) a b c ((d + t) % 4294967296) e f g
         (W * 4294967296 % 13407807929942597099574024998205846127479365820592393377723561443721764030073546976801874298166903427690031858186486050853753882811946569946433649006084096 + u))
      (h + Nat.xor (Nat.xor (Nat.shiftRight (e * 4294967297) 6) (Nat.shiftRight (e * 4294967297) 11)) (Nat.shiftRight (e * 4294967297) 25) + Nat.xor g (Nat.land e (Nat.xor f g)) + k + Nat.shiftRight W 480)
      ((fun p q => (Nat.shiftRight W 480 + Nat.xor (Nat.xor (Nat.shiftRight (q * 4294967297) 7) (Nat.shiftRight (q * 4294967297) 18)) (Nat.shiftRight q 3) + Nat.shiftRight W 192 % 4294967296 + Nat.xor (Nat.xor (Nat.shiftRight (p * 4294967297) 17) (Nat.shiftRight (p * 4294967297) 19)) (Nat.shiftRight p 10)) % 4294967296)
        (Nat.shiftRight W 32 % 4294967296) (Nat.shiftRight W 448 % 4294967296)))
    ks
/-- a word turned, up to what lies above 32 bits -/
theorem rot_two (n x : Nat) (hn : n ≤ 32) (hx : x < 4294967296) : (x * 4294967297) / 2 ^ n % 4294967296 = rotr n x := by
  have hp : 0 < 2 ^ n := Nat.two_pow_pos n
  have e32 : 4294967296 = 2 ^ n * 2 ^ (32 - n) := by rw [← Nat.pow_add, Nat.add_sub_cancel' hn]
  have e1 : x * 4294967297 = 2 ^ n * (x * 2 ^ (32 - n)) + x := by
    rw [show (4294967297 : Nat) = 4294967296 + 1 from rfl, Nat.mul_add, Nat.mul_one, e32, Nat.mul_left_comm]
  rw [e1, Nat.mul_add_div hp]
  have e2 : x * 2 ^ (32 - n) = 4294967296 * (x / 2 ^ n) + x % 2 ^ n * 2 ^ (32 - n) := by
    have : x = 2 ^ n * (x / 2 ^ n) + x % 2 ^ n := (Nat.div_add_mod x (2 ^ n)).symm
    conv => lhs; rw [this]
    rw [Nat.add_mul, e32]
    ac_rfl
  rw [e2, Nat.add_assoc, Nat.mul_add_mod]
  have hr := rotr_lt hn hx
  unfold rotr at hr ⊢
  rw [Nat.add_comm (x % 2 ^ n * 2 ^ (32 - n))]
  exact Nat.mod_eq_of_lt hr
theorem xmod (a b : Nat) : (a ^^^ b) % 4294967296 = (a % 4294967296) ^^^ (b % 4294967296) := Nat.xor_mod_two_pow (n := 32)
theorem shr_div (a n : Nat) : Nat.shiftRight a n = a / 2 ^ n := Nat.shiftRight_eq_div_pow a n
theorem sig3 (x i j k : Nat) (hi : i ≤ 32) (hj : j ≤ 32) (hk : k ≤ 32) (hx : x < 4294967296) : Nat.xor (Nat.xor (Nat.shiftRight (x * 4294967297) i) (Nat.shiftRight (x * 4294967297) j)) (Nat.shiftRight (x * 4294967297) k) % 4294967296 = (rotr i x ^^^ rotr j x) ^^^ rotr k x := by
  show ((Nat.shiftRight (x * 4294967297) i ^^^ Nat.shiftRight (x * 4294967297) j) ^^^ Nat.shiftRight (x * 4294967297) k) % 4294967296 = _
  rw [shr_div, shr_div, shr_div, xmod, xmod, rot_two i x hi hx, rot_two j x hj hx, rot_two k x hk hx]
theorem sig2 (x i j k : Nat) (hi : i ≤ 32) (hj : j ≤ 32) (hx : x < 4294967296) : Nat.xor (Nat.xor (Nat.shiftRight (x * 4294967297) i) (Nat.shiftRight (x * 4294967297) j)) (Nat.shiftRight x k) % 4294967296 = (rotr i x ^^^ rotr j x) ^^^ (x / 2 ^ k) := by
  show ((Nat.shiftRight (x * 4294967297) i ^^^ Nat.shiftRight (x * 4294967297) j) ^^^ Nat.shiftRight x k) % 4294967296 = _
  rw [shr_div, shr_div, shr_div, xmod, xmod, rot_two i x hi hx, rot_two j x hj hx, Nat.mod_eq_of_lt (div_lt32 hx)]
theorem ch_two (e f g : Nat) (he : e < 4294967296) (hf : f < 4294967296) (hg : g < 4294967296) : Nat.xor g (Nat.land e (Nat.xor f g)) = chs e f g := by
  show g ^^^ (e &&& (f ^^^ g)) = (e &&& f) ^^^ ((4294967295 - e) &&& g)
  apply Nat.eq_of_testBit_eq
  intro i
  by_cases h : i < 32
  · have : (4294967295 - e).testBit i = !e.testBit i := by
      have := Nat.testBit_two_pow_sub_succ (n := 32) (x := e) (by omega) i
      rw [show (4294967295 - e) = 2 ^ 32 - (e + 1) from by omega, this]
      simp [h]
    simp only [Nat.testBit_xor, Nat.testBit_and, this]
    cases e.testBit i <;> cases f.testBit i <;> cases g.testBit i <;> rfl
  · have z : ∀ x : Nat, x < 4294967296 → x.testBit i = false := fun x hx => Nat.testBit_lt_two_pow (Nat.lt_of_lt_of_le hx (show 2 ^ 32 ≤ 2 ^ i from Nat.pow_le_pow_right (by decide) (by omega)))
    simp only [Nat.testBit_xor, Nat.testBit_and, z e he, z f hf, z g hg]
    simp
theorem maj_two (a b c : Nat) : Nat.xor (Nat.land a b) (Nat.land c (Nat.xor a b)) = maj a b c := by
  show (a &&& b) ^^^ (c &&& (a ^^^ b)) = ((a &&& b) ^^^ (a &&& c)) ^^^ (b &&& c)
  apply Nat.eq_of_testBit_eq
  intro i
  simp only [Nat.testBit_xor, Nat.testBit_and]
  cases a.testBit i <;> cases b.testBit i <;> cases c.testBit i <;> rfl

/-! the schedule, as it goes on -/
/-- the i-th word, of a schedule with no end -/
def wAt (b : List UInt8) (i : Nat) : Nat := (more i (words b 16)).getD i 0
theorem more_prefix (b : List UInt8) (n i : Nat) (h : i < 16 + n) : (more n (words b 16)).getD i 0 = wAt b i := by
  have step : ∀ n, i < 16 + n → (more (n + 1) (words b 16)).getD i 0 = (more n (words b 16)).getD i 0 := by
    intro n hn
    rw [more_succ, List.getD_eq_getElem?_getD, List.getElem?_append_left (by rw [more_length, words_length]; exact hn), List.getD_eq_getElem?_getD]
  have up : ∀ d n, i < 16 + n → (more (n + d) (words b 16)).getD i 0 = (more n (words b 16)).getD i 0 := by
    intro d
    induction d with
    | zero => intro n _; rfl
    | succ d ih => intro n hn; rw [← Nat.add_assoc, step _ (by omega), ih n hn]
  unfold wAt
  rcases Nat.le_total n i with hle | hle
  · have := up (i - n) n h
    rw [show n + (i - n) = i from by omega] at this
    exact this.symm
  · have := up (n - i) i (by omega)
    rw [show i + (n - i) = n from by omega] at this
    exact this
theorem wAt_next (b : List UInt8) (i : Nat) : wAt b (i + 16) = (wAt b i + sig0 (wAt b (i + 1)) + wAt b (i + 9) + sig1 (wAt b (i + 14))) % 4294967296 := by
  have hl : (more i (words b 16)).length = 16 + i := by rw [more_length, words_length]
  have e : (more (i + 1) (words b 16)).getD (i + 16) 0 = nextW (more i (words b 16)) := by
    have : ∀ (l : List Nat) (x k : Nat), l.length = k → (l ++ [x]).getD k 0 = x := by
      intro l x k hk
      subst hk
      simp
    rw [more_succ]
    exact this _ _ _ (by rw [hl]; omega)
  rw [← more_prefix b (i + 1) (i + 16) (by omega), e, nextW, hl, show 16 + i - 16 = i from by omega, show 16 + i - 15 = i + 1 from by omega, show 16 + i - 7 = i + 9 from by omega, show 16 + i - 2 = i + 14 from by omega,
    more_prefix b i i (by omega), more_prefix b i (i + 1) (by omega), more_prefix b i (i + 9) (by omega), more_prefix b i (i + 14) (by omega)]
theorem wAt_lt (b : List UInt8) (i : Nat) : wAt b i < 4294967296 := getD_lt (more_lt _ _ (words_lt b 16)) (by decide) _
theorem key480' (n m : Nat) (hn : n = m + m) (hm : m = 240) : (3121748550315992231381597229793166305748598142664971150859156959625371738819765620120306103063491971159826931121406622895447975679288285306290176 : Nat) = 2 ^ n := by
  rw [hn, Nat.pow_add, hm]
theorem key480 (n : Nat) (h : n = 480) : (3121748550315992231381597229793166305748598142664971150859156959625371738819765620120306103063491971159826931121406622895447975679288285306290176 : Nat) = 2 ^ n := key480' n 240 (by omega) rfl
theorem key512 (n : Nat) (h : n = 480) : (13407807929942597099574024998205846127479365820592393377723561443721764030073546976801874298166903427690031858186486050853753882811946569946433649006084096 : Nat) = 2 ^ n * 4294967296 := by
  rw [← key480 n h]
theorem shr_mod (W n : Nat) (h : W < 2 ^ n * 4294967296) : Nat.shiftRight W n % 4294967296 = Nat.shiftRight W n := by
  rw [shr_div]
  exact Nat.mod_eq_of_lt (Nat.div_lt_of_lt_mul h)
/-- the sixteen words from i on, as one number -/
def Win (b : List UInt8) (i W : Nat) : Prop := W < 13407807929942597099574024998205846127479365820592393377723561443721764030073546976801874298166903427690031858186486050853753882811946569946433649006084096 ∧ ∀ j, j < 16 → W / 2 ^ (32 * (15 - j)) % 4294967296 = wAt b (i + j)
theorem Win.next {b : List UInt8} {i W u : Nat} (h : Win b i W) (hu : u = wAt b (i + 16)) : Win b (i + 1) (W * 4294967296 % 13407807929942597099574024998205846127479365820592393377723561443721764030073546976801874298166903427690031858186486050853753882811946569946433649006084096 + u) := by
  have hlt : u < 4294967296 := by rw [hu]; exact wAt_lt b _
  have e512 : (13407807929942597099574024998205846127479365820592393377723561443721764030073546976801874298166903427690031858186486050853753882811946569946433649006084096 : Nat) = 3121748550315992231381597229793166305748598142664971150859156959625371738819765620120306103063491971159826931121406622895447975679288285306290176 * 4294967296 := by decide
  have e : W * 4294967296 % 13407807929942597099574024998205846127479365820592393377723561443721764030073546976801874298166903427690031858186486050853753882811946569946433649006084096 = W % 3121748550315992231381597229793166305748598142664971150859156959625371738819765620120306103063491971159826931121406622895447975679288285306290176 * 4294967296 := by rw [e512, Nat.mul_mod_mul_right]
  have hm : W % 3121748550315992231381597229793166305748598142664971150859156959625371738819765620120306103063491971159826931121406622895447975679288285306290176 < 3121748550315992231381597229793166305748598142664971150859156959625371738819765620120306103063491971159826931121406622895447975679288285306290176 := Nat.mod_lt _ (by decide)
  rw [e]
  refine ⟨?_, fun j hj => ?_⟩
  · rw [e512]
    omega
  · by_cases hj15 : j = 15
    · subst hj15
      rw [show 32 * (15 - 15) = 0 from rfl, Nat.pow_zero, Nat.div_one, Nat.mul_comm, Nat.mul_add_mod, Nat.mod_eq_of_lt hlt, hu]
    · have h2 := h.2 (j + 1) (by omega)
      rw [show i + 1 + j = i + (j + 1) from by omega, ← h2]
      obtain ⟨m, hmm⟩ : ∃ m, 15 - j = m + 1 := ⟨14 - j, by omega⟩
      rw [hmm, show 15 - (j + 1) = m from by omega, show 32 * (m + 1) = 32 + 32 * m from by omega, Nat.pow_add, ← Nat.div_div_eq_div_mul]
      rw [show (2 : Nat) ^ 32 = 4294967296 from by decide, show (W % 3121748550315992231381597229793166305748598142664971150859156959625371738819765620120306103063491971159826931121406622895447975679288285306290176 * 4294967296 + u) / 4294967296 = W % 3121748550315992231381597229793166305748598142664971150859156959625371738819765620120306103063491971159826931121406622895447975679288285306290176 from by omega]
      have e480 : (3121748550315992231381597229793166305748598142664971150859156959625371738819765620120306103063491971159826931121406622895447975679288285306290176 : Nat) = 2 ^ (32 * m) * 2 ^ (480 - 32 * m) := by rw [← Nat.pow_add]; exact key480 _ (by omega)
      rw [e480, Nat.mod_mul_right_div_self, Nat.mod_mod_of_dvd _ ?_]
      obtain ⟨r, hr⟩ : ∃ r, 480 - 32 * m = 32 + r := ⟨480 - 32 * m - 32, by omega⟩
      rw [hr, Nat.pow_add]
      exact Nat.dvd_mul_right _ _
theorem Win.first (b : List UInt8) (hb : b.length = 64) : Win b 0 (numB b) := by
  have hl := numB_lt b
  rw [hb] at hl
  have e512 : (13407807929942597099574024998205846127479365820592393377723561443721764030073546976801874298166903427690031858186486050853753882811946569946433649006084096 : Nat) = 256 ^ 64 := by
    rw [show 64 = 31 + 31 + 2 from rfl, Nat.pow_add, Nat.pow_add]
  refine ⟨by rw [e512]; exact hl, fun j hj => ?_⟩
  have h1 := numB_sub b (4 * j) 4 (by omega)
  rw [hb] at h1
  have e : numB ((b.drop (4 * j)).take 4) = word b j := by
    have g : ∀ k, k < 4 → ((b.drop (4 * j)).take 4)[k]? = some (b.getD (4 * j + k) 0) := by
      intro k hk
      rw [List.getElem?_take, if_pos hk, List.getElem?_drop, List.getD_eq_getElem?_getD, List.getElem?_eq_getElem (by omega)]
      rfl
    have e4 : (b.drop (4 * j)).take 4 = [b.getD (4 * j) 0, b.getD (4 * j + 1) 0, b.getD (4 * j + 2) 0, b.getD (4 * j + 3) 0] := by
      apply List.ext_getElem?
      intro k
      match k with
      | 0 => exact g 0 (by decide)
      | 1 => exact g 1 (by decide)
      | 2 => exact g 2 (by decide)
      | 3 => exact g 3 (by decide)
      | k + 4 => rw [List.getElem?_eq_none (by simp; omega), List.getElem?_eq_none (by simp)]
    rw [e4]
    simp [numB, num, word]
  rw [Nat.zero_add]
  have e3 : wAt b j = word b j := by
    rw [← more_prefix b 0 j (by omega)]
    show (words b 16).getD j 0 = _
    rw [words, List.getD_eq_getElem?_getD, List.getElem?_map, List.getElem?_range (by omega)]
    rfl
  rw [e3, ← e, h1, show 64 - 4 * j - 4 = 4 * (15 - j) from by omega, show (256 : Nat) ^ (4 * (15 - j)) = 2 ^ (32 * (15 - j)) from by rw [show (256 : Nat) = 2 ^ 8 from by decide, ← Nat.pow_mul]; congr 1; omega]

/-! rounds -/
def St.num (s : St) : Nat := ((((((s.a * 4294967296 + s.b) * 4294967296 + s.c) * 4294967296 + s.d) * 4294967296 + s.e) * 4294967296 + s.f) * 4294967296 + s.g) * 4294967296 + s.h
def steps (f : St → Nat → Nat → St) (w : Nat → Nat) : List Nat → Nat → St → St
  | [], _, s => s
  | k :: ks, i, s => steps f w ks (i + 1) (f s k (w i))
theorem goF_cons (k : Nat) (ks : List Nat) (a b c d e f g h W : Nat) : goF (k :: ks) a b c d e f g h W =
    goF ks ((h + Nat.xor (Nat.xor (Nat.shiftRight (e * 4294967297) 6) (Nat.shiftRight (e * 4294967297) 11)) (Nat.shiftRight (e * 4294967297) 25) + Nat.xor g (Nat.land e (Nat.xor f g)) + k + Nat.shiftRight W 480 + (Nat.xor (Nat.xor (Nat.shiftRight (a * 4294967297) 2) (Nat.shiftRight (a * 4294967297) 13)) (Nat.shiftRight (a * 4294967297) 22) + Nat.xor (Nat.land a b) (Nat.land c (Nat.xor a b)))) % 4294967296) a b c
      ((d + (h + Nat.xor (Nat.xor (Nat.shiftRight (e * 4294967297) 6) (Nat.shiftRight (e * 4294967297) 11)) (Nat.shiftRight (e * 4294967297) 25) + Nat.xor g (Nat.land e (Nat.xor f g)) + k + Nat.shiftRight W 480)) % 4294967296) e f g
      (W * 4294967296 % 13407807929942597099574024998205846127479365820592393377723561443721764030073546976801874298166903427690031858186486050853753882811946569946433649006084096 + (Nat.shiftRight W 480 + Nat.xor (Nat.xor (Nat.shiftRight (Nat.shiftRight W 448 % 4294967296 * 4294967297) 7) (Nat.shiftRight (Nat.shiftRight W 448 % 4294967296 * 4294967297) 18)) (Nat.shiftRight (Nat.shiftRight W 448 % 4294967296) 3) + Nat.shiftRight W 192 % 4294967296 + Nat.xor (Nat.xor (Nat.shiftRight (Nat.shiftRight W 32 % 4294967296 * 4294967297) 17) (Nat.shiftRight (Nat.shiftRight W 32 % 4294967296 * 4294967297) 19)) (Nat.shiftRight (Nat.shiftRight W 32 % 4294967296) 10)) % 4294967296) := by
  unfold goF
  dsimp only
theorem goF_congr (ks : List Nat) {a a' e e' W W' : Nat} (b c d f g h : Nat) (h1 : a = a') (h2 : e = e') (h3 : W = W') : goF ks a b c d e f g h W = goF ks a' b c d e' f g h W' := by rw [h1, h2, h3]
theorem sig0_of (q x : Nat) (h : q = x) (hx : x < 4294967296) : Nat.xor (Nat.xor (Nat.shiftRight (q * 4294967297) 7) (Nat.shiftRight (q * 4294967297) 18)) (Nat.shiftRight q 3) % 4294967296 = sig0 x := by
  subst h
  exact sig2 q 7 18 3 (by decide) (by decide) hx
theorem sig1_of (q x : Nat) (h : q = x) (hx : x < 4294967296) : Nat.xor (Nat.xor (Nat.shiftRight (q * 4294967297) 17) (Nat.shiftRight (q * 4294967297) 19)) (Nat.shiftRight q 10) % 4294967296 = sig1 x := by
  subst h
  exact sig2 q 17 19 10 (by decide) (by decide) hx
theorem sum_four (w w' x y y' z X Y : Nat) (hw : w = w') (hy : y = y') (h1 : X % 4294967296 = x) (h2 : Y % 4294967296 = z) : (w + X + y + Y) % 4294967296 = (w' + x + y' + z) % 4294967296 := by omega
theorem win_at {b : List UInt8} {i W : Nat} (hW : Win b i W) (j n : Nat) (hj : j < 16) (hn : n = 32 * (15 - j)) : Nat.shiftRight W n % 4294967296 = wAt b (i + j) := by
  subst hn
  rw [shr_div]
  exact hW.2 j hj
theorem win_zero {b : List UInt8} {i W : Nat} (hW : Win b i W) : Nat.shiftRight W 480 = wAt b i :=
  (shr_mod W 480 (Nat.lt_of_lt_of_eq hW.1 (key512 480 rfl))).symm.trans (win_at hW 0 480 (by decide) rfl)
theorem sched_u {b : List UInt8} {i W : Nat} (hW : Win b i W) :
    (Nat.shiftRight W 480 + Nat.xor (Nat.xor (Nat.shiftRight (Nat.shiftRight W 448 % 4294967296 * 4294967297) 7) (Nat.shiftRight (Nat.shiftRight W 448 % 4294967296 * 4294967297) 18)) (Nat.shiftRight (Nat.shiftRight W 448 % 4294967296) 3) + Nat.shiftRight W 192 % 4294967296 + Nat.xor (Nat.xor (Nat.shiftRight (Nat.shiftRight W 32 % 4294967296 * 4294967297) 17) (Nat.shiftRight (Nat.shiftRight W 32 % 4294967296 * 4294967297) 19)) (Nat.shiftRight (Nat.shiftRight W 32 % 4294967296) 10)) % 4294967296 = wAt b (i + 16) := by
  have w1 : Nat.shiftRight W 448 % 4294967296 = wAt b (i + 1) := win_at hW 1 448 (by decide) rfl
  have w9 : Nat.shiftRight W 192 % 4294967296 = wAt b (i + 9) := win_at hW 9 192 (by decide) rfl
  have w14 : Nat.shiftRight W 32 % 4294967296 = wAt b (i + 14) := win_at hW 14 32 (by decide) rfl
  rw [wAt_next]
  exact sum_four _ _ _ _ _ _ _ _ (win_zero hW) w9 (sig0_of _ _ w1 (wAt_lt b _)) (sig1_of _ _ w14 (wAt_lt b _))
theorem fstep_a (s : St) (k w w' X1 X0 c m : Nat) (hw : w = w') (h1 : X1 % 4294967296 = Sig1 s.e) (h0 : X0 % 4294967296 = Sig0 s.a) (hc : c = chs s.e s.f s.g) (hm : m = maj s.a s.b s.c) : (s.h + X1 + c + k + w + (X0 + m)) % 4294967296 = (s.step k w').a := by
  show _ = (t1 s k w' + t2 s) % 4294967296
  rw [t1, t2, ← h1, ← h0, hc, hm, hw]
  omega
theorem fstep_e (s : St) (k w w' X1 c : Nat) (hw : w = w') (h1 : X1 % 4294967296 = Sig1 s.e) (hc : c = chs s.e s.f s.g) : (s.d + (s.h + X1 + c + k + w)) % 4294967296 = (s.step k w').e := by
  show _ = (s.d + t1 s k w') % 4294967296
  rw [t1, ← h1, hc, hw]
  omega
theorem goF_is (b : List UInt8) (ks : List Nat) : ∀ (i : Nat) (s : St) (W : Nat), s.ok → Win b i W → goF ks s.a s.b s.c s.d s.e s.f s.g s.h W = (steps St.step (wAt b) ks i s).num := by
  induction ks with
  | nil => intro i s W _ _; rfl
  | cons k ks ih =>
    intro i s W hs hW
    obtain ⟨ha, hb, hc, hd, he, hf, hg, hh⟩ := hs
    have hst : (s.step k (wAt b i)).ok := step_ok ⟨ha, hb, hc, hd, he, hf, hg, hh⟩ _ _
    have s1 := sig3 s.e 6 11 25 (by decide) (by decide) (by decide) he
    have s0 := sig3 s.a 2 13 22 (by decide) (by decide) (by decide) ha
    have hc' := ch_two _ _ _ he hf hg
    have hm' := maj_two s.a s.b s.c
    have h1 := ih (i + 1) _ _ hst (hW.next (sched_u hW))
    rw [goF_cons, steps, ← h1]
    exact goF_congr ks _ _ _ _ _ _ (fstep_a s k _ _ _ _ _ _ (win_zero hW) s1 s0 hc' hm') (fstep_e s k _ _ _ _ (win_zero hW) s1 hc') rfl
theorem steps_gen (b : List UInt8) (s : St) (K ws : List Nat) (hK : K.length ≤ 64) (hw : ∀ i, i < 64 → ws.getD i 0 = wAt b i) : ∀ (d i : Nat), i + d = K.length → steps St.step (wAt b) (K.drop i) i (roundsTo s K ws i) = roundsTo s K ws K.length := by
  intro d
  induction d with
  | zero =>
    intro i hi
    obtain rfl : i = K.length := by omega
    rw [List.drop_length]
    rfl
  | succ d ih =>
    intro i hi
    rw [← ih (i + 1) (by omega), List.drop_eq_getElem_cons (by omega), steps, roundsTo, hw i (by omega), List.getD_eq_getElem?_getD, List.getElem?_eq_getElem (by omega)]
    rfl
theorem goF_rounds (b : List UInt8) (hb : b.length = 64) (s : St) (hs : s.ok) : goF rootsL s.a s.b s.c s.d s.e s.f s.g s.h (numB b) = (roundsTo s rootsL (sched b) 64).num := by
  rw [goF_is b rootsL 0 s _ hs (Win.first b hb)]
  have hl : rootsL.length = 64 := rfl
  have := steps_gen b s rootsL (sched b) (by rw [hl]; decide) (fun i hi => more_prefix b 48 i (by omega)) 64 0 (by rw [hl])
  rw [hl] at this
  exact congrArg St.num this
end Go.Proofs.YtioahjdojgcfdaaDoor

namespace Go.Proofs.YtioahjdojgcfdaaDoor

theorem num_list (s : St) : s.num = num 4294967296 s.list := by simp [St.num, num, St.list]
theorem list_lt (s : St) (h : s.ok) : ∀ x ∈ s.list, x < 4294967296 := by
  obtain ⟨ha, hb, hc, hd, he, hf, hg, hh⟩ := h
  intro x hx
  simp [St.list] at hx
  rcases hx with rfl | rfl | rfl | rfl | rfl | rfl | rfl | rfl <;> assumption
theorem digit (s : St) (h : s.ok) (i e : Nat) (hi : i < 8) (he : 4294967296 ^ (7 - i) = 2 ^ e) : Nat.shiftRight s.num e % 4294967296 = s.list[i] := by
  have := num_at 4294967296 (by decide) s.list (list_lt s h) i hi
  rw [← num_list] at this
  rw [shr_div, ← this, ← he]
  rfl
def packF (a b c d e f g h r : Nat) : Nat :=
  ((((((((a + Nat.shiftRight r 224) % 4294967296) * 4294967296 + (b + Nat.shiftRight r 192) % 4294967296) * 4294967296 + (c + Nat.shiftRight r 160) % 4294967296) * 4294967296 + (d + Nat.shiftRight r 128) % 4294967296) * 4294967296 + (e + Nat.shiftRight r 96) % 4294967296) * 4294967296 + (f + Nat.shiftRight r 64) % 4294967296) * 4294967296 + (g + Nat.shiftRight r 32) % 4294967296) * 4294967296 + (h + r) % 4294967296
noncomputable def mixG (a b c d e f g h blk : Nat) : Nat := packF a b c d e f g h (goF rootsL a b c d e f g h blk)
noncomputable def mixF (H blk : Nat) : Nat :=
  mixG (Nat.shiftRight H 224 % 4294967296) (Nat.shiftRight H 192 % 4294967296) (Nat.shiftRight H 160 % 4294967296) (Nat.shiftRight H 128 % 4294967296) (Nat.shiftRight H 96 % 4294967296) (Nat.shiftRight H 64 % 4294967296) (Nat.shiftRight H 32 % 4294967296) (H % 4294967296) blk
theorem add_mod_of (a x y : Nat) (h : x % 4294967296 = y) : (a + x) % 4294967296 = (a + y) % 4294967296 := by omega
theorem num_eq (s : St) (a b c d e f g h : Nat) (ha : a = s.a) (hb : b = s.b) (hc : c = s.c) (hd : d = s.d) (he : e = s.e) (hf : f = s.f) (hg : g = s.g) (hh : h = s.h) :
    ((((((a * 4294967296 + b) * 4294967296 + c) * 4294967296 + d) * 4294967296 + e) * 4294967296 + f) * 4294967296 + g) * 4294967296 + h = s.num := by subst ha hb hc hd he hf hg hh; rfl
theorem digit0 (s : St) (h : s.ok) : s.num % 4294967296 = s.h := by
  have := digit s h 7 0 (by decide) (by decide)
  rw [shr_div, Nat.pow_zero, Nat.div_one] at this
  exact this
theorem packF_is (s r : St) (ho : r.ok) : packF s.a s.b s.c s.d s.e s.f s.g s.h r.num = (s.add r).num := by
  have r0 : Nat.shiftRight r.num 224 % 4294967296 = r.a := digit r ho 0 224 (by decide) (by decide)
  have r1 : Nat.shiftRight r.num 192 % 4294967296 = r.b := digit r ho 1 192 (by decide) (by decide)
  have r2 : Nat.shiftRight r.num 160 % 4294967296 = r.c := digit r ho 2 160 (by decide) (by decide)
  have r3 : Nat.shiftRight r.num 128 % 4294967296 = r.d := digit r ho 3 128 (by decide) (by decide)
  have r4 : Nat.shiftRight r.num 96 % 4294967296 = r.e := digit r ho 4 96 (by decide) (by decide)
  have r5 : Nat.shiftRight r.num 64 % 4294967296 = r.f := digit r ho 5 64 (by decide) (by decide)
  have r6 : Nat.shiftRight r.num 32 % 4294967296 = r.g := digit r ho 6 32 (by decide) (by decide)
  exact num_eq (s.add r) _ _ _ _ _ _ _ _ (add_mod_of _ _ _ r0) (add_mod_of _ _ _ r1) (add_mod_of _ _ _ r2) (add_mod_of _ _ _ r3) (add_mod_of _ _ _ r4) (add_mod_of _ _ _ r5) (add_mod_of _ _ _ r6) (add_mod_of _ _ _ (digit0 r ho))
theorem mixG_is (s : St) (hs : s.ok) (b : List UInt8) (hb : b.length = 64) : mixG s.a s.b s.c s.d s.e s.f s.g s.h (numB b) = (s.mix b).num := by
  unfold mixG St.mix
  rw [goF_rounds b hb s hs]
  exact packF_is s _ (roundsTo_ok hs rootsL (sched b) 64)
theorem mixG_congr {a b c d e f g h a' b' c' d' e' f' g' h' : Nat} (blk : Nat) (ha : a = a') (hb : b = b') (hc : c = c') (hd : d = d') (he : e = e') (hf : f = f') (hg : g = g') (hh : h = h') : mixG a b c d e f g h blk = mixG a' b' c' d' e' f' g' h' blk := by subst ha hb hc hd he hf hg hh; rfl
theorem mixF_is (s : St) (hs : s.ok) (b : List UInt8) (hb : b.length = 64) : mixF s.num (numB b) = (s.mix b).num := by
  rw [← mixG_is s hs b hb]
  exact mixG_congr _ (digit s hs 0 224 (by decide) (by decide)) (digit s hs 1 192 (by decide) (by decide)) (digit s hs 2 160 (by decide) (by decide)) (digit s hs 3 128 (by decide) (by decide)) (digit s hs 4 96 (by decide) (by decide)) (digit s hs 5 64 (by decide) (by decide)) (digit s hs 6 32 (by decide) (by decide)) (digit0 s hs)

noncomputable def blkF (p nb n : Nat) : Nat := Nat.rec (motive := fun _ => Nat) 47962653771679561900652889051773562940742041696833059450490514104358170316057 (fun i ih => mixF ih (Nat.shiftRight p (512 * (nb - 1 - i)) % 13407807929942597099574024998205846127479365820592393377723561443721764030073546976801874298166903427690031858186486050853753882811946569946433649006084096)) n
theorem start_num : start.num = 47962653771679561900652889051773562940742041696833059450490514104358170316057 := by decide
theorem fblocks_ok (s : St) (hs : s.ok) (l : List UInt8) (n : Nat) : (blocksTo s l n).ok := by
  cases n with
  | zero => exact hs
  | succ n => exact mix_ok _ _
theorem blkF_is (p : List UInt8) (nb : Nat) (hp : p.length = 64 * nb) : ∀ n, n ≤ nb → blkF (numB p) nb n = (blocksTo start p n).num := by
  intro n
  induction n with
  | zero => intro _; exact start_num.symm
  | succ n ih =>
    intro hn
    have h1 := numB_sub p (64 * n) 64 (by omega)
    have hl : ((p.drop (64 * n)).take 64).length = 64 := by rw [List.length_take, List.length_drop]; omega
    rw [blocksTo, ← mixF_is _ (fblocks_ok _ start_ok _ _) _ hl, ← ih (by omega), h1, hp]
    show mixF (blkF (numB p) nb n) _ = _
    congr 1
    rw [shr_div]
    have e1 : 64 * nb - 64 * n - 64 = 64 * (nb - 1 - n) := by omega
    have e2 : (256 : Nat) ^ (64 * (nb - 1 - n)) = 2 ^ (512 * (nb - 1 - n)) := by
      rw [show (256 : Nat) = 2 ^ 8 from by decide, ← Nat.pow_mul]
      congr 1
      omega
    have e3 : (256 : Nat) ^ 64 = 13407807929942597099574024998205846127479365820592393377723561443721764030073546976801874298166903427690031858186486050853753882811946569946433649006084096 := by rw [show 64 = 31 + 31 + 2 from rfl, Nat.pow_add, Nat.pow_add]
    rw [e1, e2, e3]
noncomputable def digF (T m : Nat) : Nat := blkF ((T * 256 + 128) * 256 ^ ((119 - m % 64) % 64 + 8) + 8 * m % 18446744073709551616) ((m + 72) / 64) ((m + 72) / 64)
theorem numB_one (x : UInt8) : numB [x] = x.toNat := by simp [numB, num]
theorem pad_num (l : List UInt8) : numB (pad l) = (numB l * 256 + 128) * 256 ^ ((119 - l.length % 64) % 64 + 8) + 8 * l.length % 18446744073709551616 := by
  have e : pad l = l ++ [128] ++ List.replicate ((119 - l.length % 64) % 64) 0 ++ be (8 * l.length) 8 := by simp [pad]
  have e8 : numB (be (8 * l.length) 8) = 8 * l.length % 18446744073709551616 := by rw [numB_be]
  rw [e, numB_append, e8, numB_append, numB_zeros, numB_append, numB_one, be_length, List.length_replicate, List.length_singleton, Nat.pow_one, Nat.add_zero, Nat.mul_assoc, ← Nat.pow_add]
  rfl
theorem bytes_num (s : St) (hs : s.ok) : numB s.bytes = s.num := by
  obtain ⟨ha, hb, hc, hd, he, hf, hg, hh⟩ := hs
  have e : s.bytes = be s.a 4 ++ be s.b 4 ++ be s.c 4 ++ be s.d 4 ++ be s.e 4 ++ be s.f 4 ++ be s.g 4 ++ be s.h 4 := by simp [St.bytes, St.list]
  have q : ∀ x, x < 4294967296 → numB (be x 4) = x := fun x hx => by rw [numB_be]; exact Nat.mod_eq_of_lt hx
  rw [e]
  simp only [numB_append, be_length, q _ ha, q _ hb, q _ hc, q _ hd, q _ he, q _ hf, q _ hg, q _ hh]
  rfl
theorem shaL_num (l : List UInt8) : numB (shaL l) = digF (numB l) l.length := by
  unfold shaL digF
  rw [bytes_num _ (fblocks_ok _ start_ok _ _), ← pad_num, blkF_is (pad l) _ (pad_length l) _ (Nat.le_refl _)]

/-! texts: a number and how many bytes it has -/
def txt (t : Nat × Nat) : ByteArray := str (be t.1 t.2)
def foldT : List (Nat × Nat) → Nat → Nat
  | [], T => T
  | t :: r, T => foldT r ((T * 4294967296 + t.2 % 4294967296) * 256 ^ t.2 + t.1 % 256 ^ t.2)
def lenT : List (Nat × Nat) → Nat → Nat
  | [], m => m
  | t :: r, m => lenT r (m + (4 + t.2))
noncomputable def tagF (tag : Nat) (ts : List (Nat × Nat)) : Nat := digF (foldT ts (tag % 256)) (lenT ts 1) / 340282366920938463463374607431768211456 % 340282366920938463463374607431768211456
theorem fold_num : ∀ (ts : List (Nat × Nat)) (p : List UInt8), numB (p ++ (ts.map txt).flatMap fun s => be s.size 4 ++ s.data.toList) = foldT ts (numB p) ∧ (p ++ (ts.map txt).flatMap fun s => be s.size 4 ++ s.data.toList).length = lenT ts p.length
  | [], p => by simp [foldT, lenT]
  | t :: r, p => by
    have hs : (txt t).size = t.2 := by unfold txt; rw [str_size, be_length]
    have hd : (txt t).data.toList = be t.1 t.2 := rfl
    have e : p ++ ((t :: r).map txt).flatMap (fun s => be s.size 4 ++ s.data.toList) = (p ++ be t.2 4 ++ be t.1 t.2) ++ (r.map txt).flatMap (fun s => be s.size 4 ++ s.data.toList) := by
      rw [List.map_cons, List.flatMap_cons, hs, hd]
      simp only [List.append_assoc]
    obtain ⟨h1, h2⟩ := fold_num r (p ++ be t.2 4 ++ be t.1 t.2)
    rw [e, h1, h2]
    constructor
    · rw [numB_append, numB_append, numB_be, numB_be, be_length, be_length]
      rfl
    · rw [lenT]
      congr 1
      simp only [List.length_append, be_length]
      omega
theorem tag_texts (tag : Nat) (ts : List (Nat × Nat)) : tagS (UInt8.ofNat tag) (ts.map txt) = txt (tagF tag ts, 16) := by
  have hT : numB (tagB (UInt8.ofNat tag) (ts.map txt)) = foldT ts (tag % 256) ∧ (tagB (UInt8.ofNat tag) (ts.map txt)).length = lenT ts 1 := by
    have := fold_num ts [UInt8.ofNat tag]
    rw [numB_one] at this
    have e : (UInt8.ofNat tag).toNat = tag % 256 := by simp
    rw [e] at this
    exact this
  unfold tagS txt tagF
  have h1 := numB_sub (shaL (tagB (UInt8.ofNat tag) (ts.map txt))) 0 16 (by rw [shaL_length]; decide)
  rw [shaL_num, shaL_length, hT.1, hT.2, List.drop_zero] at h1
  have h2 := be_numB ((shaL (tagB (UInt8.ofNat tag) (ts.map txt))).take 16)
  rw [List.length_take, shaL_length, h1] at h2
  exact congrArg str h2.symm
end Go.Proofs.YtioahjdojgcfdaaDoor

namespace Go.Proofs.YtioahjdojgcfdaaDoor
open Go.RowKit
attribute [local irreducible] shaL

structure StrmS where
  seed : ByteArray
  cnt : Nat
  rest : List UInt8
def StrmS.fill (s : StrmS) : StrmS := if s.rest = [] then ⟨s.seed, (s.cnt + 1) % 4294967296, shaL (s.seed.data.toList ++ be s.cnt 4)⟩ else s
def StrmS.num (s : StrmS) : Nat := numB (s.fill.rest.take 8)
def StrmS.nxt (s : StrmS) : StrmS := ⟨s.fill.seed, s.fill.cnt, s.fill.rest.drop 8⟩
def StrmAt (w : World) (b : Nat) (s : StrmS) : Prop := w.heap[b]? = some (.cells #[.string s.seed, .int .u32 s.cnt, .string (str s.rest)] 138 (0, 0))
structure StrmS.ok (s : StrmS) : Prop where
  d : s.seed.size ≤ 1000000
  c : s.cnt ≤ 4294967295
  r : ∃ j, s.rest.length = 8 * j ∧ j ≤ 4
theorem StrmS.fill_ok {s : StrmS} (h : s.ok) : s.fill.ok ∧ ∃ j, s.fill.rest.length = 8 * (j + 1) ∧ j ≤ 3 := by
  unfold StrmS.fill
  split
  · exact ⟨⟨h.d, by show (s.cnt + 1) % 4294967296 ≤ _; omega, 4, by show (shaL _).length = _; rw [shaL_length], by omega⟩, 3, by show (shaL _).length = _; rw [shaL_length], by omega⟩
  · next q =>
    refine ⟨h, ?_⟩
    obtain ⟨j, hj, hj4⟩ := h.r
    have : s.rest.length ≠ 0 := fun e => q (List.length_eq_zero_iff.1 e)
    exact ⟨j - 1, by omega, by omega⟩
theorem StrmS.nxt_ok {s : StrmS} (h : s.ok) : s.nxt.ok := by
  obtain ⟨h1, j, hj, hj3⟩ := StrmS.fill_ok h
  exact ⟨h1.d, h1.c, j, by show (s.fill.rest.drop 8).length = _; rw [List.length_drop]; omega, by omega⟩
theorem strm_cells {w : World} {b : Nat} {s : StrmS} (h : StrmAt w b s) : w.cell? ⟨b, 0, none⟩ = some (.string s.seed) ∧ w.cell? ⟨b, 1, none⟩ = some (.int .u32 s.cnt) ∧ w.cell? ⟨b, 2, none⟩ = some (.string (str s.rest)) := by
  refine ⟨?_, ?_, ?_⟩ <;> rw [cell_of h] <;> rfl
theorem numB_snoc (l : List UInt8) (c : UInt8) : numB (l ++ [c]) = numB l * 256 + c.toNat := by
  simp [numB, num]
end Go.Proofs.YtioahjdojgcfdaaDoor

namespace Go.Proofs.YtioahjdojgcfdaaDoor
open Go.RowKit
attribute [local irreducible] shaL

theorem grown_row {a b c : World} {row : Option Nat} (h : a.grownBy b none) (k : b.grownBy c row) (hn : ∀ g, row = some g → a.heap.size ≤ g) : a.grownBy c none :=
  ⟨k.os.trans h.os, k.tape.trans h.tape, k.output.trans h.output, Nat.le_trans h.size k.size, fun i hi hne => (k.block i (Nat.lt_of_lt_of_le hi h.size) (by intro e; have := hn i e.symm; omega)).trans (h.block i hi hne)⟩
theorem ShaReady.grown {w w' : World} (h : ShaReady w) (hg : w.grownBy w' none) : ShaReady w' := h.kept hg (by simp) (by simp)

/-- sha.Tagged of texts in a new block -/
theorem tagged_new (w : World) (tag : UInt8) (L : List ByteArray) (vs : List Value) (n : Nat) (tg : Int) (hv : vs = L.map Value.string) (hn : n = L.length) (ht : (tag.toNat : Int) = tg) (hr : ShaReady w) (hN : L.length ≤ 1000) (hs : ∀ s ∈ L, s.size ≤ 1000000000000) :
    Calls Tryd.prog 46 #[.int .u8 tg, .slice (some ⟨w.heap.size, 0, none⟩) n n] (w.alloc (.cells vs.toArray 9)) fun e w' => e = .returned (.string (tagS tag L)) ∧ w.grownBy w' none := by
  subst hv
  subst ht
  refine (tagged_any _ tag _ L (strs_new w L 9 n hn) (hr.grown (World.grownBy_alloc _ _ _)) (by unfold maxLen; omega) ?_).mono fun e w' h => ⟨h.1, grownBy_trans (World.grownBy_alloc _ _ _) h.2⟩
  have := tagB_length tag L _ hs
  have h2 : L.length * (4 + 1000000000000) ≤ 1000 * (4 + 1000000000000) := Nat.mul_le_mul_right _ hN
  omega

end Go.Proofs.YtioahjdojgcfdaaDoor

namespace Go.Proofs.YtioahjdojgcfdaaDoor
open Go.RowKit
attribute [local irreducible] shaL

theorem strm_ne {w : World} {b : Nat} {s : StrmS} (h : StrmAt w b s) (hr : ShaReady w) : b ≠ 0 ∧ b ≠ 1 := by
  constructor
  · rintro rfl
    have h1 := hr.s 5 (.int .u32 (start.list.getD 5 0 : Nat)) (u32s_at start.list 5 (by decide))
    rw [cell_of h] at h1
    cases h1
  · rintro rfl
    have h1 := hr.r 5 (by decide)
    rw [cell_of h] at h1
    cases h1
theorem ShaReady.strm {w w' : World} {b : Nat} {s : StrmS} (hr : ShaReady w) (h : StrmAt w b s) (g : w.grownBy w' (some b)) : ShaReady w' :=
  hr.kept g (fun e => (strm_ne h hr).1 (Option.some.inj e)) (fun e => (strm_ne h hr).2 (Option.some.inj e))
theorem text_lenN (t : ByteArray) : t.data.toList.length = t.size := by rw [Array.length_toList]; rfl
theorem str_emp (l : List UInt8) : (str l).toList.isEmpty = decide (l = []) := by
  rw [emp, str_size, Bool.eq_iff_iff]
  simp
set_option maxRecDepth 100000 in
set_option maxHeartbeats 1600000 in
theorem next_any (w : World) (b : Nat) (s : StrmS) (h : StrmAt w b s) (ho : s.ok) (hr : ShaReady w) :
    Calls Tryd.prog 89 #[.pointer (some ⟨b, 0, none⟩)] w fun e w' => e = .returned (.int .u64 s.num) ∧ StrmAt w' b s.nxt ∧ w.grownBy w' (some b) := by
  obtain ⟨c0, c1, c2⟩ := strm_cells h
  have hem := str_emp s.rest
  obtain ⟨tb, htb⟩ : ∃ tb : Bool, decide (s.rest = []) = tb := ⟨_, rfl⟩
  rw [htb] at hem
  have HTB := Lib.hid htb
  clear htb
  have H := Lib.hid h
  have HO := Lib.hid ho
  have HR := Lib.hid hr
  have hcl := ho.c
  have hdl := ho.d
  clear h ho hr
  go_enter Tryd.func89, Tryd.ntmps89
  go_upto_if 10 with (fail)
  go_cut [0] (fun v0 wy => v0 = .pointer (some ⟨b, 0, none⟩) ∧ Hid (StrmAt wy b s.fill ∧ w.grownBy wy (some b)))
  case rest =>
    as_aux_lemma =>
    rename World => wa
    obtain ⟨rfl, HA⟩ := hcut
    obtain ⟨ho2, j, hj, hj3⟩ := StrmS.fill_ok HO.out
    obtain ⟨F, hF⟩ : ∃ F, s.fill = F := ⟨_, rfl⟩
    have hnum : s.num = numB (F.rest.take 8) := by unfold StrmS.num; rw [hF]
    have hnxt : s.nxt = ⟨F.seed, F.cnt, F.rest.drop 8⟩ := by unfold StrmS.nxt; rw [hF]
    rw [hF] at HA hj
    have HJ := Lib.hid hj
    have HN := Lib.hid (And.intro hnum hnxt)
    have h8 : 8 ≤ F.rest.length := by omega
    have hsz : (str F.rest).size = F.rest.length := str_size _
    have hlt32 : F.rest.length ≤ 32 := by omega
    clear c0 c1 c2 hem hF hnum hnxt hj ho2 hcl hdl H
    obtain ⟨S, hS⟩ : ∃ S, str F.rest = S := ⟨_, rfl⟩
    have hSs : S.size = F.rest.length := by rw [← hS]; exact hsz
    have hSat : ∀ k, (h : k < S.size) → (h2 : k < F.rest.length) → (S[k]'h).toNat = (F.rest[k]'h2).toNat := by
      subst hS
      intro k h h2
      rfl
    have hx : S.extract 8 S.size = str (F.rest.drop 8) := by
      subst hS
      apply ByteArray.ext
      rw [ByteArray.data_extract]
      apply Array.toList_inj.1
      rw [Array.toList_extract]
      show (F.rest.drop 8).take ((str F.rest).size - 8) = F.rest.drop 8
      exact List.take_of_length_le (by rw [List.length_drop, hSs]; omega)
    have HS := Lib.hid (And.intro hS (And.intro hSat hx))
    have HL := Lib.hid (And.intro hSs h8)
    have h8s : 8 ≤ S.size := by omega
    have hs32 : S.size ≤ 32 := by omega
    clear hS hSat hx hsz hSs h8 hlt32
    go_wp2_with fail
    go_loopw [4, 37] (fun nv iv wr => ∃ (k m : Nat), k ≤ 8 ∧ iv = .int .i64 k ∧ nv = .int .u64 m ∧ Hid (numB (F.rest.take k) = m) ∧ Hid (StrmAt wr b F ∧ w.grownBy wr (some b))) (fun _ iv _ => 8 - (intOf iv).toNat)
    case atStart => exact ⟨0, 0, by omega, rfl, rfl, Lib.hid rfl, HA⟩
    case round =>
      clear HA
      obtain ⟨k, m, hk, rfl, rfl, HV, HA⟩ := hrel
      obtain ⟨c0, c1, c2⟩ := strm_cells HA.out.1
      rw [HS.out.1] at c2
      by_cases hlt : k < 8
      · have hm : m < 72057594037927936 := by
          have h1 := numB_lt (F.rest.take k)
          rw [HV.out] at h1
          have h2 : (F.rest.take k).length ≤ 7 := by rw [List.length_take]; omega
          exact Nat.lt_of_lt_of_le h1 (Nat.pow_le_pow_right (n := 256) (by omega) h2)
        have hks : k < S.size := by omega
        have b2 : (k : Int) < 8 := by omega
        clear h8s
        go_wp2_with fail
        go_roundw
        case rel =>
          refine ⟨k + 1, m * 256 + (S[k]'hks).toNat, by omega, by go_num, ?_, ?_, ?_⟩
          · rw [or_byte m _ hm (S[k]'hks).toNat_lt, Nat.mul_comm]
          · have hkl : k < F.rest.length := by have := HL.out.1; omega
            show numB _ = _
            rw [List.take_succ_eq_append_getElem hkl, numB_snoc, HV.out, HS.out.2.1 k hks hkl]
          · exact HA
        case measure => simp [intOf]; omega
      · obtain rfl : k = 8 := by omega
        have f0 := free_of HA.out.1
        go_wp2_with fail
        go_ret
        rw [HN.out.1, HN.out.2, HV.out]
        refine ⟨rfl, ?_, grownBy_setCell HA.out.2 2 _⟩
        have h1 := heap_setCell HA.out.1 2 (.string (S.extract 8 S.size))
        rw [HS.out.2.2] at h1 ⊢
        exact h1
  case first =>
    cases tb
    case true =>
      have q : s.rest = [] := of_decide_eq_true HTB.out
      have hfl : s.fill = ⟨s.seed, (s.cnt + 1) % 4294967296, shaL (s.seed.data.toList ++ be s.cnt 4)⟩ := by unfold StrmS.fill; rw [if_pos q]
      have HF := Lib.hid hfl
      clear hfl
      clear hem
      go_wp2_with fail
      refine (newHash_any _ HR.out.s HR.out.r).mono ?_
      rintro e w1 ⟨rfl, h1, g1⟩
      have H1 := Lib.hid h1
      have hlt := (Array.getElem?_eq_some_iff.1 H.out).1
      have hbn : b ≠ w.heap.size := by omega
      have d0 : w1.cell? ⟨b, 0, none⟩ = some (.string s.seed) := g1.cell c0 (by simp)
      have G1 := Lib.hid g1
      clear g1 h1
      go_wp2_with fail
      refine (write_any _ _ _ s.seed H1.out (by simp; omega)).mono ?_
      rintro e w2 ⟨rfl, h2, g2⟩
      have H2 := Lib.hid h2
      have G2 := Lib.hid (grown_new G1.out g2 (Nat.le_refl _))
      have d1 : w2.cell? ⟨b, 1, none⟩ = some (.int .u32 s.cnt) := G2.out.cell c1 (by simp)
      clear h2 g2 d0
      go_wp2_with fail
      refine (writeNum_any _ _ _ s.cnt 4 H2.out (by omega) (by omega) (by rw [List.nil_append, text_lenN]; omega)).mono ?_
      rintro e w3 ⟨rfl, h3, g3⟩
      have H3 := Lib.hid h3
      have G3 := Lib.hid (grown_new G2.out g3 (Nat.le_refl _))
      clear h3 g3 d1
      go_wp2_with fail
      refine (sum_any _ _ _ H3.out (by rw [List.nil_append, List.length_append, text_lenN, be_length]; omega)).mono ?_
      rintro e w4 ⟨rfl, g4⟩
      have G4 := Lib.hid (grown_new G3.out g4 (Nat.le_refl _))
      have hb4 := G4.out.heap H.out (by simp)
      obtain ⟨e0, e1, e2⟩ := strm_cells (s := s) hb4
      have f4 := free_of hb4
      clear g4
      go_wp2_with fail
      go_meet
      case rel =>
        refine ⟨rfl, Lib.hid ?_⟩
        rw [HF.out]
        refine ⟨?_, grownBy_setCell (grownBy_setCell (grownBy_any G4.out _) 2 _) 1 _⟩
        refine (heap_setCell (heap_setCell hb4 2 _) 1 _).trans ?_
        have e : (((s.cnt + 1) % 4294967296 : Nat) : Int) = ((s.cnt : Int) + 1) % 4294967296 := by omega
        show _ = some (Obj.cells #[.string s.seed, .int .u32 ((s.cnt + 1) % 4294967296 : Nat), .string (str (shaL (s.seed.data.toList ++ be s.cnt 4)))] 138 (0, 0))
        rw [e]
        rfl
    case false =>
      have q : ¬ s.rest = [] := of_decide_eq_false HTB.out
      have hfl : s.fill = s := by unfold StrmS.fill; rw [if_neg q]
      clear hem
      go_wp2_with fail
      go_meet
      case rel => exact ⟨rfl, Lib.hid (by rw [hfl]; exact ⟨H.out, World.grownBy.refl _ _⟩)⟩
/-- the next number, where it is small enough -/
theorem below_any (w : World) (b : Nat) (s : StrmS) (n : Nat) (h : StrmAt w b s) (ho : s.ok) (hr : ShaReady w) (hn : 2 ≤ n ∧ n ≤ 64) (hs : s.num < 18446744073709551552) :
    Calls Tryd.prog 48 #[.pointer (some ⟨b, 0, none⟩), .int .u64 n] w fun e w' => e = .returned (.int .u64 (s.num % n : Nat)) ∧ StrmAt w' b s.nxt ∧ w.grownBy w' (some b) := by
  have HN := Lib.hid (next_any w b s h ho hr)
  obtain ⟨k, hk⟩ : ∃ k, s.num = k := ⟨_, rfl⟩
  rw [hk] at HN hs ⊢
  obtain ⟨r, hrr⟩ : ∃ r, 18446744073709551615 % n = r := ⟨_, rfl⟩
  have hr64 : r < n := by rw [← hrr]; exact Nat.mod_lt _ (by omega)
  have e1 : (18446744073709551615 : Int) % (n : Int) = (r : Int) := by rw [← hrr]; rfl
  have e2 : (18446744073709551615 : Int).tmod (n : Int) = (r : Int) := by rw [Int.tmod_eq_emod_of_nonneg (by omega)]; exact e1
  have e3 : (k : Int).tmod (n : Int) = ((k % n : Nat) : Int) := by rw [Int.tmod_eq_emod_of_nonneg (by omega)]; rfl
  have hn1 : ¬ ((n : Int) < 2) := by omega
  have hlt : (k : Int) < 18446744073709551615 - (r : Int) := by omega
  have b1 : (0 : Int) ≤ 18446744073709551615 - (r : Int) := by omega
  have hkn : k % n < n := Nat.mod_lt _ (by omega)
  clear hrr
  go_enter Tryd.func48, Tryd.ntmps48
  go_wp2_with fail
  go_loopw [6] (fun _ wr => wr = w) (fun _ _ => 0)
  case atStart => rfl
  case round =>
    obtain rfl := hrel
    go_wp2_with fail
    refine HN.out.mono ?_
    rintro e w1 ⟨rfl, h1, g1⟩
    have H1 := Lib.hid (And.intro h1 g1)
    clear h1 g1
    go_wp2_with fail
    go_ret
    exact ⟨rfl, H1.out⟩
end Go.Proofs.YtioahjdojgcfdaaDoor

namespace Go.Proofs.YtioahjdojgcfdaaDoor
open Go.RowKit

/-- the numbers from 0 on, as far as k -/
def riseL (n k : Nat) : List Int := (List.range k).map Int.ofNat ++ List.replicate (n - k) 0
theorem riseL_len (n k : Nat) (h : k ≤ n) : (riseL n k).length = n := by unfold riseL; simp; omega
set_option maxRecDepth 100000 in
set_option maxHeartbeats 800000 in
theorem rising_any (n : Nat) (hn : n ≤ 64) (w : World) :
    Calls Tryd.prog 47 #[.int .i64 n] w fun e w' => e = .returned (.slice (some ⟨w.heap.size, 0, none⟩) n n) ∧ (∃ L : List Int, L.length = n ∧ w'.ownsRow w.heap.size 3 1 (.slice (some ⟨w.heap.size, 0, none⟩) n n) n (ints L)) ∧ w.grownBy w' none := by
  obtain ⟨i0, hi, hz0, hz1, hz2⟩ := info_parts infoIntD
  go_enter Tryd.func47, Tryd.ntmps47
  go_wp2_with (at_make; refine wpList_make_full _ rfl _ _ 24 rfl w.heap.size 3 i0 (.int .i64 0) 1 Tryd.underlying24 hi hz0 hz1 _ _ _ _ n rfl rfl rfl rfl ?c1 ?c2 ?c3 ?_)
  case c1 => rw [hz2]; omega
  case c2 => unfold maxLen; omega
  case c3 => omega
  intro w1 hown hg
  have hrow : (madeCells #[Value.int .i64 0] n).toList = ints (List.replicate n 0) := by
    apply List.ext_getElem?
    intro i
    simp [madeCells, ints, List.getElem?_replicate]
    by_cases h : i < n <;> simp [h, Nat.mod_one]
  rw [hrow] at hown
  have HO := Lib.hid hown
  have HG := Lib.hid hg
  clear hown hg hrow
  go_wp2_with fail
  go_loopw [4, 8] (fun _ i wr => ∃ (k : Nat) (L : List Int), k ≤ n ∧ i = .int .i64 k ∧ L.length = n ∧ Hid (wr.ownsRow w.heap.size 3 1 (.slice (some ⟨w.heap.size, 0, none⟩) n n) n (ints L)) ∧ Hid (w.grownBy wr none))
    (fun _ i _ => n - (intOf i).toNat)
  case atStart => exact ⟨0, _, Nat.zero_le _, rfl, by simp, HO, HG⟩
  case round =>
    clear HO HG
    obtain ⟨k, L, hk, rfl, hL, HO, HG⟩ := hrel
    by_cases hlt : k < n
    · have hkL : k < L.length := by omega
      have hat : wr.cell? ⟨w.heap.size, k, none⟩ = some (.int .i64 L[k]) := by rw [HO.out.cellAt k (by omega), ints_at L k hkL]
      have hf := HO.out.frozenAt k
      have hset : (ints L).set k (.int .i64 k) = ints (L.set k k) := by simp [ints, List.map_set]
      have HS := Lib.hid hset
      clear hset
      have b1 : (0 : Int) ≤ (k : Int) := by omega
      have b2 : (k : Int) < (n : Int) := by omega
      go_wp2_with fail
      go_roundw
      case rel =>
        refine ⟨k + 1, L.set k k, by omega, by go_num, by simpa using hL, ?_, grownBy_setNew HG.out (Nat.le_refl _) _ _⟩
        show World.ownsRow _ _ _ _ _ _ _
        rw [← HS.out]
        exact (HO.out.stored _ _).1
      case measure => simp [intOf]; omega
    · have : k = n := by omega
      subst this
      go_wp2_with fail
      go_ret
      exact ⟨rfl, ⟨L, hL, HO.out⟩, HG.out⟩
set_option maxRecDepth 100000 in
set_option maxHeartbeats 800000 in
theorem wcount_any (n : Int) (w : World) :
    Calls Tryd.prog 53 #[.int .i64 n] w fun e w' => e = .returned (.int .i64 (min (max n 0) 1048576)) ∧ w = w' := by
  go_enter Tryd.func53, Tryd.ntmps53
  go_wp2_with fail
  all_goals (go_ret; refine ⟨?_, rfl⟩; refine congrArg Ending.returned (congrArg (Value.int .i64) ?_); first | omega | (split at * <;> omega))
set_option maxRecDepth 100000 in
set_option maxHeartbeats 800000 in
theorem needed_any (a b : Nat) (ha : a ≤ 1000) (hb : b ≤ 1000) (w : World) :
    Calls Tryd.prog 14 #[.int .i64 a, .int .i64 b] w fun e w' => e = .returned (.int .i64 ((a + b) / 2 + 1 : Nat)) ∧ w = w' := by
  have h1 := wcount_any a w
  have h2 := wcount_any b w
  rw [show min (max (a : Int) 0) 1048576 = (a : Int) by omega] at h1
  rw [show min (max (b : Int) 0) 1048576 = (b : Int) by omega] at h2
  have H1 := Lib.hid h1
  have H2 := Lib.hid h2
  clear h1 h2
  obtain ⟨q, hq⟩ : ∃ q, (a + b) / 2 = q := ⟨_, rfl⟩
  have e1 : ((a : Int) + (b : Int)).tdiv 2 = (q : Int) := by rw [Int.tdiv_eq_ediv_of_nonneg (by omega)]; omega
  have e2 : ((a : Int) + (b : Int)) / 2 = (q : Int) := by omega
  rw [hq]
  have hq2 : q ≤ 1000 := by omega
  clear hq
  go_enter Tryd.func14, Tryd.ntmps14
  go_wp2_with fail
  refine H1.out.mono ?_
  rintro e w1 ⟨rfl, rfl⟩
  go_wp2_with fail
  refine H2.out.mono ?_
  rintro e w1 ⟨rfl, rfl⟩
  go_wp2_with fail
  go_ret
  exact ⟨rfl, rfl⟩
/-- where an integer is, of a list -/
def firstN (L : List Int) (x : Int) : Int := match L.findIdx? (fun y => decide (y = x)) with | some i => (i : Int) | none => -1
set_option maxRecDepth 100000 in
set_option maxHeartbeats 800000 in
theorem index74 (b : Nat) (w : World) (c0 : w.cell? ⟨b, 0, none⟩ = some (.int .i64 7)) (c1 : w.cell? ⟨b, 1, none⟩ = some (.int .i64 4)) :
    Calls Tryd.prog 52 #[.slice (some ⟨b, 0, none⟩) 2 2, .int .i64 4] w fun e w' => e = .returned (.int .i64 1) ∧ w = w' := by
  go_enter Tryd.func52, Tryd.ntmps52
  go_wp2_with fail
  go_loopw [5, 8] (fun _ iv wr => (iv = .int .i64 0 ∨ iv = .int .i64 1) ∧ wr = w) (fun _ iv _ => 2 - (intOf iv).toNat)
  case atStart => exact ⟨Or.inl rfl, rfl⟩
  case round =>
    obtain ⟨rfl | rfl, rfl⟩ := hrel
    · go_wp2_with fail
      go_roundw
      case rel => exact ⟨Or.inr rfl, trivial⟩
      case measure => simp [intOf]
    · go_wp2_with fail
      go_ret
      exact ⟨rfl, rfl⟩
theorem slot74 (b : Nat) (w : World) (c0 : w.cell? ⟨b, 0, none⟩ = some (.int .i64 7)) (c1 : w.cell? ⟨b, 1, none⟩ = some (.int .i64 4)) :
    Calls Tryd.prog 13 #[.slice (some ⟨b, 0, none⟩) 2 2, .int .i64 4] w fun e w' => e = .returned (.tuple #[.int .i64 1, .bool true]) ∧ w = w' := by
  have H := Lib.hid (index74 b w c0 c1)
  clear c0 c1
  go_enter Tryd.func13, Tryd.ntmps13
  go_wp2_with fail
  refine H.out.mono ?_
  rintro e w1 ⟨rfl, rfl⟩
  go_wp2_with fail
  go_ret2
  exact ⟨rfl, rfl⟩
end Go.Proofs.YtioahjdojgcfdaaDoor

namespace Go.Proofs.YtioahjdojgcfdaaDoor
open Go.RowKit

theorem row_string_w (w : World) (vs : List Value) (l : List UInt8) (hl : vs = u8s l) :
    (convert 57 9 (.slice (some ⟨w.heap.size, 0, none⟩) l.length l.length)).run Tryd.prog (w.alloc (.cells vs.toArray 5)) = .ok (.string (str l)) (w.alloc (.cells vs.toArray 5)) := by
  subst hl
  exact row_string (w := w.alloc (.cells (u8s l).toArray 5)) (g := w.heap.size) (t := 5) (heap_alloc_at _ _ _ rfl) _
theorem be4 (n : Nat) : be n 4 = [UInt8.ofNat (n / 256 ^ 3 % 256), UInt8.ofNat (n / 256 ^ 2 % 256), UInt8.ofNat (n / 256 ^ 1 % 256), UInt8.ofNat (n / 256 ^ 0 % 256)] := by
  simp [be, Nat.div_div_eq_div_mul]
theorem four_bytes (n : Nat) : [Value.int .u8 ((n : Int) / 16777216 % 256), .int .u8 ((n : Int) / 65536 % 256), .int .u8 ((n : Int) / 256 % 256), .int .u8 ((n : Int) % 256)] = u8s (be n 4) := by
  rw [be4]
  simp [u8s]
end Go.Proofs.YtioahjdojgcfdaaDoor

namespace Go.Proofs.YtioahjdojgcfdaaDoor
open Go.ChangeShapes Go.WideShapes Go.ChangeAt Go.RowKit Go.Lib Go.Shelf

/-- a listed array of 32-bit numbers, cell by cell -/
theorem u32_of_reads {w : World} {name : String} {g t : Nat} {n : Nat} (L : List Nat) (hL : L.length = n) (hn : Tryd.prog.globalNamed name = some g) (hy : (Tryd.prog.globals[g]?).map (·.type) = some t)
    (hu : Tryd.prog.underlying t = some (.array n 40)) (hc : Tryd.prog.cellsOf 40 = 1)
    (h : VarReads Tryd.prog w name (.agg (L.map fun n : Nat => .lit (.int .u32 (n : Int))))) (i : Nat) (hi : i < n) : w.cell? ⟨g, i, none⟩ = some (.int .u32 (L.getD i 0 : Nat)) := by
  obtain ⟨g', t', cs, fuel, p, hg, hty, hvar, hd⟩ := h
  obtain rfl := Option.some.inj (hn.symm.trans hg)
  obtain rfl := Option.some.inj (hy.symm.trans hty)
  obtain ⟨fuel', d, q, hdi, he⟩ := array_elem hu hd i hi
  rw [hc] at he
  obtain ⟨z, e0, x0, _⟩ := DataW.trod_int Tryd.underlying40 he
  have hd2 : d = .lit (.int .u32 (L.getD i 0 : Nat)) := by
    have hlt : i < L.length := by omega
    rw [List.getElem?_map, List.getElem?_eq_getElem hlt] at hdi
    rw [List.getD_eq_getElem?_getD, List.getElem?_eq_getElem hlt]
    exact (Option.some.inj hdi).symm
  rw [hd2] at x0
  rw [World.var?_cell hn hvar i]
  have := congrArg (fun l : List Value => l[0]?) e0
  simp [List.getElem?_take, List.getElem?_drop] at this
  rw [this]
  simp only [Prod.mk.injEq, DataW.lit.injEq, Lit.int.injEq, true_and] at x0
  rw [x0.1]

theorem start_is : (Rows.laid_plumbob_sha_start : DataW Unit) = .agg (start.list.map fun n : Nat => .lit (.int .u32 (n : Int))) := by kernel_rfl
theorem roots_is : (Rows.laid_plumbob_sha_roots : DataW Unit) = .agg (rootsL.map fun n : Nat => .lit (.int .u32 (n : Int))) := by kernel_rfl
theorem nStart : Tryd.prog.globalNamed "plumbob/sha.start" = some 0 := by kernel_rfl
theorem yStart : (Tryd.prog.globals[0]?).map (·.type) = some 172 := by kernel_rfl
theorem nRoots : Tryd.prog.globalNamed "plumbob/sha.roots" = some 1 := by kernel_rfl
theorem yRoots : (Tryd.prog.globals[1]?).map (·.type) = some 190 := by kernel_rfl
theorem cU32 : Tryd.prog.cellsOf 40 = 1 := by kernel_rfl
theorem shaReady_of_laid {w : World} (h : laidMet Tryd.prog [("plumbob/sha.start", Rows.laid_plumbob_sha_start), ("plumbob/sha.roots", Rows.laid_plumbob_sha_roots)] w) : ShaReady w := by
  have h1 := Lib.laidMet.reads h (.head _)
  have h2 := Lib.laidMet.reads h (.tail _ (.head _))
  rw [start_is] at h1
  rw [roots_is] at h2
  refine ⟨fun j v hv => ?_, fun i hi => u32_of_reads rootsL rfl nRoots yRoots Tryd.underlying190 cU32 h2 i hi⟩
  have hj : j < 8 := by
    have := (List.getElem?_eq_some_iff.1 hv).1
    rwa [u32s_length, St.list_length] at this
  rw [Nat.zero_add, u32_of_reads start.list rfl nStart yStart Tryd.underlying172 cU32 h1 j hj, ← hv, u32s_at _ _ (by rw [St.list_length]; exact hj)]

/-- the settled world, the two variables holding what their texts lay -/
noncomputable def shaWorld (os : Os) : World :=
  let w0 := World.holding Tryd.prog os ⟨#[], #[], []⟩
  let put (h : Array Obj) (g : Nat) (cs : Array Value) : Array Obj := h.modify g fun
    | .cells _ t frozen => .cells cs t frozen
    | o => o
  let h1 := put w0.heap 0 (u32s start.list).toArray
  let h2 := put h1 1 (u32s rootsL).toArray
  { w0 with heap := h2 }
theorem sha_met (os : Os) (args : Array Value) : laidMet Tryd.prog [("plumbob/sha.start", Rows.laid_plumbob_sha_start), ("plumbob/sha.roots", Rows.laid_plumbob_sha_roots)] ((shaWorld os).forCall (fun _ _ => 0) ⟨#[], args, []⟩).memory :=
  (LaidIn.of_run (l := [("plumbob/sha.start", Rows.laid_plumbob_sha_start), ("plumbob/sha.roots", Rows.laid_plumbob_sha_roots)]) [0, 1] 8 (by kernel_rfl) (by kernel_rfl) (by kernel_rfl) (by kernel_rfl)).met
theorem own : ownKnob Tryd.prog.godebug = none := by kernel_rfl
end Go.Proofs.YtioahjdojgcfdaaDoor

namespace Go.Proofs.YtioahjdojgcfdaaDoor
open Go.RowKit

def bytesV (l : List UInt8) : List Value := l.map fun c => .int .u8 c.toNat
theorem infoB : (Tryd.prog.info? 5).map (fun i => (i.zero, i.size, i.bytes)) = some (some (.int .u8 0), 1, 1) := by kernel_rfl
theorem made_bytes (n : Nat) : (madeCells #[Value.int .u8 0] n).toList = bytesV (List.replicate n 0) := by
  apply List.ext_getElem?
  intro i
  simp [madeCells, bytesV, List.getElem?_replicate]
  by_cases h : i < n <;> simp [h, Nat.mod_one]
/-- 'string(b)', b a row of the call's own that holds bytes -/
theorem own_str {wr : World} {B g k cap : Nat} {l : List UInt8} (h : wr.ownsRow B 5 1 (.slice (some ⟨g, 0, none⟩) k cap) k (bytesV l)) :
    (convert 57 9 (.slice (some ⟨g, 0, none⟩) k cap)).run Tryd.prog wr = .ok (.string (str l)) wr := by
  have hl : l.length = k := by simpa [bytesV] using h.1
  subst hl
  refine run_convert_bytes_back wr 57 9 5 _ cap l Tryd.underlying57 Tryd.underlying5 Tryd.underlying9 fun j hj => ?_
  rw [show Addr.add ⟨g, 0, none⟩ j = (⟨g, j, none⟩ : Addr) from by simp [Addr.add]; omega, h.cellAt j (by simpa using hj)]
  simp [bytesV, List.getElem?_eq_getElem hj]
/-- 'string(b[:])', b a block of bytes -/
theorem blk_str {w : World} {g : Nat} {l : List UInt8} {t : TypeId} (h : w.heap[g]? = some (.cells (bytesV l).toArray t (0, 0))) (cap : Nat) :
    (convert 57 9 (.slice (some ⟨g, 0, none⟩) l.length cap)).run Tryd.prog w = .ok (.string (str l)) w := by
  refine run_convert_bytes_back w 57 9 5 _ cap l Tryd.underlying57 Tryd.underlying5 Tryd.underlying9 fun j hj => ?_
  rw [show Addr.add ⟨g, 0, none⟩ j = (⟨g, j, none⟩ : Addr) from by simp [Addr.add]; omega, cell_of h, List.getElem?_toArray]
  simp [bytesV, List.getElem?_eq_getElem hj]
end Go.Proofs.YtioahjdojgcfdaaDoor
