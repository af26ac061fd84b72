/- Plain functions for package sha: SHA-256 on numbers. Nothing here names the program. -/
import Derived.WalkKit
import Derived.Test.YtheabbknflmnfaaDoorRows
import Derived.Test.YtheabbknflmnfaaDoorOctetSpec
namespace Go.Proofs.YtheabbknflmnfaaDoor

/-! words -/
/-- a word turned to the right -/
def rotr (n x : Nat) : Nat := x / 2 ^ n + x % 2 ^ n * 2 ^ (32 - n)
def sig0 (x : Nat) : Nat := (rotr 7 x ^^^ rotr 18 x) ^^^ x / 2 ^ 3
def sig1 (x : Nat) : Nat := (rotr 17 x ^^^ rotr 19 x) ^^^ x / 2 ^ 10
def Sig0 (x : Nat) : Nat := (rotr 2 x ^^^ rotr 13 x) ^^^ rotr 22 x
def Sig1 (x : Nat) : Nat := (rotr 6 x ^^^ rotr 11 x) ^^^ rotr 25 x
def chs (e f g : Nat) : Nat := (e &&& f) ^^^ ((4294967295 - e) &&& g)
def maj (a b c : Nat) : Nat := ((a &&& b) ^^^ (a &&& c)) ^^^ (b &&& c)

theorem rotr_lt {n x : Nat} (hn : n ≤ 32) (hx : x < 4294967296) : rotr n x < 4294967296 := by
  unfold rotr
  have h1 : x / 2 ^ n < 2 ^ (32 - n) := by
    rw [Nat.div_lt_iff_lt_mul (Nat.two_pow_pos n), ← Nat.pow_add, Nat.sub_add_cancel hn]; exact hx
  have h2 : x % 2 ^ n + 1 ≤ 2 ^ n := Nat.mod_lt _ (Nat.two_pow_pos n)
  have h3 : (x % 2 ^ n + 1) * 2 ^ (32 - n) ≤ 2 ^ n * 2 ^ (32 - n) := Nat.mul_le_mul_right _ h2
  rw [← Nat.pow_add, Nat.add_sub_cancel' hn, Nat.add_mul] at h3
  have h4 : (2 : Nat) ^ 32 = 4294967296 := by decide
  omega
theorem xor_lt {a b : Nat} (ha : a < 4294967296) (hb : b < 4294967296) : a ^^^ b < 4294967296 := Nat.xor_lt_two_pow (n := 32) ha hb
theorem and_lt {a b : Nat} (ha : a < 4294967296) : a &&& b < 4294967296 := Nat.lt_of_le_of_lt Nat.and_le_left ha
theorem div_lt32 {a n : Nat} (ha : a < 4294967296) : a / 2 ^ n < 4294967296 := Nat.lt_of_le_of_lt (Nat.div_le_self _ _) ha
theorem sig0_lt {x : Nat} (hx : x < 4294967296) : sig0 x < 4294967296 := xor_lt (xor_lt (rotr_lt (by decide) hx) (rotr_lt (by decide) hx)) (div_lt32 hx)
theorem sig1_lt {x : Nat} (hx : x < 4294967296) : sig1 x < 4294967296 := xor_lt (xor_lt (rotr_lt (by decide) hx) (rotr_lt (by decide) hx)) (div_lt32 hx)
theorem Sig0_lt {x : Nat} (hx : x < 4294967296) : Sig0 x < 4294967296 := xor_lt (xor_lt (rotr_lt (by decide) hx) (rotr_lt (by decide) hx)) (rotr_lt (by decide) hx)
theorem Sig1_lt {x : Nat} (hx : x < 4294967296) : Sig1 x < 4294967296 := xor_lt (xor_lt (rotr_lt (by decide) hx) (rotr_lt (by decide) hx)) (rotr_lt (by decide) hx)
theorem chs_lt {e f g : Nat} (he : e < 4294967296) : chs e f g < 4294967296 := xor_lt (and_lt he) (and_lt (by omega))
theorem maj_lt {a b c : Nat} (ha : a < 4294967296) (hb : b < 4294967296) : maj a b c < 4294967296 := xor_lt (xor_lt (and_lt ha) (and_lt ha)) (and_lt hb)

/-! the state: eight words -/
structure St where
  a : Nat
  b : Nat
  c : Nat
  d : Nat
  e : Nat
  f : Nat
  g : Nat
  h : Nat
def St.ok (s : St) : Prop := s.a < 4294967296 ∧ s.b < 4294967296 ∧ s.c < 4294967296 ∧ s.d < 4294967296 ∧ s.e < 4294967296 ∧ s.f < 4294967296 ∧ s.g < 4294967296 ∧ s.h < 4294967296
def St.list (s : St) : List Nat := [s.a, s.b, s.c, s.d, s.e, s.f, s.g, s.h]
def start : St := ⟨1779033703, 3144134277, 1013904242, 2773480762, 1359893119, 2600822924, 528734635, 1541459225⟩
def rootsL : List Nat := [1116352408, 1899447441, 3049323471, 3921009573, 961987163, 1508970993, 2453635748, 2870763221, 3624381080, 310598401, 607225278, 1426881987, 1925078388, 2162078206, 2614888103, 3248222580, 3835390401, 4022224774, 264347078, 604807628, 770255983, 1249150122, 1555081692, 1996064986, 2554220882, 2821834349, 2952996808, 3210313671, 3336571891, 3584528711, 113926993, 338241895, 666307205, 773529912, 1294757372, 1396182291, 1695183700, 1986661051, 2177026350, 2456956037, 2730485921, 2820302411, 3259730800, 3345764771, 3516065817, 3600352804, 4094571909, 275423344, 430227734, 506948616, 659060556, 883997877, 958139571, 1322822218, 1537002063, 1747873779, 1955562222, 2024104815, 2227730452, 2361852424, 2428436474, 2756734187, 3204031479, 3329325298]

def t1 (s : St) (k w : Nat) : Nat := (s.h + Sig1 s.e + chs s.e s.f s.g + k + w) % 4294967296
def t2 (s : St) : Nat := (Sig0 s.a + maj s.a s.b s.c) % 4294967296
def St.step (s : St) (k w : Nat) : St := ⟨(t1 s k w + t2 s) % 4294967296, s.a, s.b, s.c, (s.d + t1 s k w) % 4294967296, s.e, s.f, s.g⟩
theorem step_ok {s : St} (h : s.ok) (k w : Nat) : (s.step k w).ok := by
  obtain ⟨ha, hb, hc, hd, he, hf, hg, hh⟩ := h
  exact ⟨Nat.mod_lt _ (by decide), ha, hb, hc, Nat.mod_lt _ (by decide), he, hf, hg⟩
def St.add (s v : St) : St := ⟨(s.a + v.a) % 4294967296, (s.b + v.b) % 4294967296, (s.c + v.c) % 4294967296, (s.d + v.d) % 4294967296, (s.e + v.e) % 4294967296, (s.f + v.f) % 4294967296, (s.g + v.g) % 4294967296, (s.h + v.h) % 4294967296⟩
theorem add_ok (s v : St) : (s.add v).ok := ⟨Nat.mod_lt _ (by decide), Nat.mod_lt _ (by decide), Nat.mod_lt _ (by decide), Nat.mod_lt _ (by decide), Nat.mod_lt _ (by decide), Nat.mod_lt _ (by decide), Nat.mod_lt _ (by decide), Nat.mod_lt _ (by decide)⟩

/-! the schedule -/
/-- four bytes as a word -/
def word (b : List UInt8) (i : Nat) : Nat := (((b.getD (4 * i) 0).toNat * 256 + (b.getD (4 * i + 1) 0).toNat) * 256 + (b.getD (4 * i + 2) 0).toNat) * 256 + (b.getD (4 * i + 3) 0).toNat
theorem word_lt (b : List UInt8) (i : Nat) : word b i < 4294967296 := by
  unfold word
  have h0 := (b.getD (4 * i) 0).toNat_lt
  have h1 := (b.getD (4 * i + 1) 0).toNat_lt
  have h2 := (b.getD (4 * i + 2) 0).toNat_lt
  have h3 := (b.getD (4 * i + 3) 0).toNat_lt
  omega
/-- the first n words of a block -/
def words (b : List UInt8) (n : Nat) : List Nat := (List.range n).map (word b)
/-- the word behind some -/
def nextW (l : List Nat) : Nat := (l.getD (l.length - 16) 0 + sig0 (l.getD (l.length - 15) 0) + l.getD (l.length - 7) 0 + sig1 (l.getD (l.length - 2) 0)) % 4294967296
def more : Nat → List Nat → List Nat
  | 0, l => l
  | n + 1, l => more n (l ++ [nextW l])
def sched (b : List UInt8) : List Nat := more 48 (words b 16)
theorem more_length (n : Nat) (l : List Nat) : (more n l).length = l.length + n := by
  induction n generalizing l with
  | zero => rfl
  | succ n ih => rw [more, ih]; simp; omega
theorem more_succ (n : Nat) (l : List Nat) : more (n + 1) l = more n l ++ [nextW (more n l)] := by
  induction n generalizing l with
  | zero => rfl
  | succ n ih => rw [more, ih (l ++ [nextW l])]; rfl
theorem sched_length (b : List UInt8) : (sched b).length = 64 := by simp [sched, more_length, words]
theorem nextW_lt (l : List Nat) : nextW l < 4294967296 := Nat.mod_lt _ (by decide)
theorem more_lt (n : Nat) (l : List Nat) (h : ∀ x ∈ l, x < 4294967296) : ∀ x ∈ more n l, x < 4294967296 := by
  induction n generalizing l with
  | zero => exact h
  | succ n ih =>
    refine ih _ fun x hx => ?_
    rcases List.mem_append.1 hx with hx | hx
    · exact h x hx
    · rw [List.mem_singleton.1 hx]; exact nextW_lt l
theorem words_lt (b : List UInt8) (n : Nat) : ∀ x ∈ words b n, x < 4294967296 := by
  intro x hx
  obtain ⟨i, _, rfl⟩ := List.mem_map.1 hx
  exact word_lt b i
theorem sched_lt (b : List UInt8) : ∀ x ∈ sched b, x < 4294967296 := more_lt _ _ (words_lt b 16)
theorem getD_lt {l : List Nat} {N : Nat} (h : ∀ x ∈ l, x < N) (hN : 0 < N) (i : Nat) : l.getD i 0 < N := by
  rw [List.getD_eq_getElem?_getD]
  cases e : l[i]? with
  | none => exact hN
  | some x => exact h x (List.mem_of_getElem? e)

/-! a block taken in -/
def roundsTo (s : St) (ks ws : List Nat) : Nat → St
  | 0 => s
  | i + 1 => (roundsTo s ks ws i).step (ks.getD i 0) (ws.getD i 0)
theorem roundsTo_ok {s : St} (h : s.ok) (ks ws : List Nat) (i : Nat) : (roundsTo s ks ws i).ok := by
  induction i with
  | zero => exact h
  | succ i ih => exact step_ok ih _ _
/-- the state behind a block -/
def St.mix (s : St) (b : List UInt8) : St := s.add (roundsTo s rootsL (sched b) 64)
theorem mix_ok (s : St) (b : List UInt8) : (s.mix b).ok := add_ok _ _
theorem start_ok : start.ok := by unfold St.ok start; decide

/-- the state behind n blocks of some bytes -/
def blocksTo (s : St) (l : List UInt8) : Nat → St
  | 0 => s
  | n + 1 => (blocksTo s l n).mix ((l.drop (64 * n)).take 64)

/-- bytes with their padding -/
def pad (l : List UInt8) : List UInt8 := l ++ 128 :: List.replicate ((119 - l.length % 64) % 64) 0 ++ be (8 * l.length) 8
theorem pad_length (l : List UInt8) : (pad l).length = 64 * ((l.length + 72) / 64) := by
  simp [pad, be_length]
  omega
def St.bytes (s : St) : List UInt8 := s.list.flatMap fun x => be x 4
/-- the digest -/
def shaL (l : List UInt8) : List UInt8 := (blocksTo start (pad l) ((l.length + 72) / 64)).bytes
theorem shaL_length (l : List UInt8) : (shaL l).length = 32 := by
  simp [shaL, St.bytes, St.list, be_length]
theorem abc_is : shaL [97, 98, 99] = [186, 120, 22, 191, 143, 1, 207, 234, 65, 65, 64, 222, 93, 174, 34, 35, 176, 3, 97, 163, 150, 23, 122, 156, 180, 16, 255, 97, 242, 0, 21, 173] := by kernel_rfl
end Go.Proofs.YtheabbknflmnfaaDoor
