/- Plain functions for package octet: the bytes of a number. Nothing here names the program. · Plain functions for package sha: SHA-256 on numbers. Nothing here names the program. · Small laws on worlds. No walk; no type of the program. · Plain functions for package digits. Nothing here names the program. · Plain functions for disks of sectors. Nothing here names the program. · Worlds that turn but in some blocks; the blocks from a number on that are not the caller's own. No walk; no type of the program. · Texts out of rows of bytes. No walk. · What a disk of sectors holds in memory; worlds that turn but in some blocks. No walk. · What a Writer and a Reader hold in memory. No walk. · The walks of octet.number, numMayBe, and of a Writer's calls. · The walks of a Writer's put and fail, Num, Text, Fixed. · The walk of a Writer's Num. · The walk of a Writer's Fixed. · What a Reader holds in memory. No walk. -/
import Derived.WalkKit
import Derived.Test.YtbhoeiopckmfhaaGreatDoorRows
import Derived.Lib.Hide
import Derived.Deep.Draws
import Derived.Laws.IdiomCopy
import Derived.Deep.MidRow
import Derived.Laws.IdiomStrings
import Derived.WalkSpells
import Derived.WalkLawsBesides
namespace Go.Proofs.YtbhoeiopckmfhaaGreatDoor

/-- the bytes of a number, the highest first -/
def be (n : Nat) : Nat → List UInt8
  | 0 => []
  | k + 1 => be (n / 256) k ++ [UInt8.ofNat (n % 256)]
theorem be_length (n k : Nat) : (be n k).length = k := by
  induction k generalizing n with
  | zero => rfl
  | succ k ih => simp [be, ih]
theorem be_cons (n k : Nat) : be n (k + 1) = UInt8.ofNat (n / 256 ^ k % 256) :: be n k := by
  induction k generalizing n with
  | zero => simp [be]
  | succ k ih =>
    rw [be, ih, be, Nat.div_div_eq_div_mul, Nat.pow_succ, Nat.mul_comm]
    rfl

/-- a text out of bytes -/
def str (l : List UInt8) : ByteArray := ⟨l.toArray⟩
theorem str_size (l : List UInt8) : (str l).size = l.length := rfl
theorem str_data (l : List UInt8) : (str l).data.toList = l := rfl

/-- the row's cells behind i rounds -/
def rowAt (n k i : Nat) : List Value := (List.replicate (k - i) (0 : UInt8) ++ be n i).map fun c => .int .u8 c.toNat

theorem rowAt_zero (n k : Nat) : (madeCells #[Value.int .u8 0] k).toList = rowAt n k 0 := by
  apply List.ext_getElem?
  intro i
  simp [madeCells, rowAt, be, List.getElem?_replicate]
  by_cases h : i < k <;> simp [h, Nat.mod_one]

theorem rowAt_succ (n k j : Nat) (h : j < k) : rowAt n k (j + 1) = (rowAt n k j).set (k - 1 - j) (.int .u8 (↑n / 2 ^ (8 * j) % 256)) := by
  have e : (UInt8.ofNat (n / 256 ^ j % 256)).toNat = n / 256 ^ j % 256 := by simp
  have p : (2 : Int) ^ (8 * j) = 256 ^ j := by rw [Int.pow_mul]; rfl
  unfold rowAt
  rw [be_cons, show k - j = (k - (j + 1)) + 1 from by omega, List.replicate_succ', List.map_append, List.map_append, List.map_append, List.append_assoc]
  rw [List.set_append_right _ _ (by simp; omega)]
  simp [show k - 1 - j - (k - (j + 1)) = 0 from by omega]
  rw [p]

theorem rowAt_cell (n k j : Nat) (h : j < k) : (rowAt n k j)[k - 1 - j]? = some (.int .u8 0) := by
  unfold rowAt
  rw [List.map_append, List.getElem?_append_left (by simp; omega)]
  simp [List.getElem?_replicate]
  omega

theorem rowAt_end (n k : Nat) : rowAt n k k = (be n k).map fun c => .int .u8 c.toNat := by
  simp [rowAt]
end Go.Proofs.YtbhoeiopckmfhaaGreatDoor

namespace Go.Proofs.YtbhoeiopckmfhaaGreatDoor

/-! words -/
/-- a word turned to the right -/
def rotr (n x : Nat) : Nat := x / 2 ^ n + x % 2 ^ n * 2 ^ (32 - n)
def sig0 (x : Nat) : Nat := (rotr 7 x ^^^ rotr 18 x) ^^^ x / 2 ^ 3
def sig1 (x : Nat) : Nat := (rotr 17 x ^^^ rotr 19 x) ^^^ x / 2 ^ 10
def Sig0 (x : Nat) : Nat := (rotr 2 x ^^^ rotr 13 x) ^^^ rotr 22 x
def Sig1 (x : Nat) : Nat := (rotr 6 x ^^^ rotr 11 x) ^^^ rotr 25 x
def chs (e f g : Nat) : Nat := (e &&& f) ^^^ ((4294967295 - e) &&& g)
def maj (a b c : Nat) : Nat := ((a &&& b) ^^^ (a &&& c)) ^^^ (b &&& c)

theorem rotr_lt {n x : Nat} (hn : n ≤ 32) (hx : x < 4294967296) : rotr n x < 4294967296 := by
  unfold rotr
  have h1 : x / 2 ^ n < 2 ^ (32 - n) := by
    rw [Nat.div_lt_iff_lt_mul (Nat.two_pow_pos n), ← Nat.pow_add, Nat.sub_add_cancel hn]; exact hx
  have h2 : x % 2 ^ n + 1 ≤ 2 ^ n := Nat.mod_lt _ (Nat.two_pow_pos n)
  have h3 : (x % 2 ^ n + 1) * 2 ^ (32 - n) ≤ 2 ^ n * 2 ^ (32 - n) := Nat.mul_le_mul_right _ h2
  rw [← Nat.pow_add, Nat.add_sub_cancel' hn, Nat.add_mul] at h3
  have h4 : (2 : Nat) ^ 32 = 4294967296 := by decide
  omega
theorem xor_lt {a b : Nat} (ha : a < 4294967296) (hb : b < 4294967296) : a ^^^ b < 4294967296 := Nat.xor_lt_two_pow (n := 32) ha hb
theorem and_lt {a b : Nat} (ha : a < 4294967296) : a &&& b < 4294967296 := Nat.lt_of_le_of_lt Nat.and_le_left ha
theorem div_lt32 {a n : Nat} (ha : a < 4294967296) : a / 2 ^ n < 4294967296 := Nat.lt_of_le_of_lt (Nat.div_le_self _ _) ha
theorem sig0_lt {x : Nat} (hx : x < 4294967296) : sig0 x < 4294967296 := xor_lt (xor_lt (rotr_lt (by decide) hx) (rotr_lt (by decide) hx)) (div_lt32 hx)
theorem sig1_lt {x : Nat} (hx : x < 4294967296) : sig1 x < 4294967296 := xor_lt (xor_lt (rotr_lt (by decide) hx) (rotr_lt (by decide) hx)) (div_lt32 hx)
theorem Sig0_lt {x : Nat} (hx : x < 4294967296) : Sig0 x < 4294967296 := xor_lt (xor_lt (rotr_lt (by decide) hx) (rotr_lt (by decide) hx)) (rotr_lt (by decide) hx)
theorem Sig1_lt {x : Nat} (hx : x < 4294967296) : Sig1 x < 4294967296 := xor_lt (xor_lt (rotr_lt (by decide) hx) (rotr_lt (by decide) hx)) (rotr_lt (by decide) hx)
theorem chs_lt {e f g : Nat} (he : e < 4294967296) : chs e f g < 4294967296 := xor_lt (and_lt he) (and_lt (by omega))
theorem maj_lt {a b c : Nat} (ha : a < 4294967296) (hb : b < 4294967296) : maj a b c < 4294967296 := xor_lt (xor_lt (and_lt ha) (and_lt ha)) (and_lt hb)

/-! the state: eight words -/
structure St where
  a : Nat
  b : Nat
  c : Nat
  d : Nat
  e : Nat
  f : Nat
  g : Nat
  h : Nat
def St.ok (s : St) : Prop := s.a < 4294967296 ∧ s.b < 4294967296 ∧ s.c < 4294967296 ∧ s.d < 4294967296 ∧ s.e < 4294967296 ∧ s.f < 4294967296 ∧ s.g < 4294967296 ∧ s.h < 4294967296
def St.list (s : St) : List Nat := [s.a, s.b, s.c, s.d, s.e, s.f, s.g, s.h]
def start : St := ⟨1779033703, 3144134277, 1013904242, 2773480762, 1359893119, 2600822924, 528734635, 1541459225⟩
def rootsL : List Nat := [1116352408, 1899447441, 3049323471, 3921009573, 961987163, 1508970993, 2453635748, 2870763221, 3624381080, 310598401, 607225278, 1426881987, 1925078388, 2162078206, 2614888103, 3248222580, 3835390401, 4022224774, 264347078, 604807628, 770255983, 1249150122, 1555081692, 1996064986, 2554220882, 2821834349, 2952996808, 3210313671, 3336571891, 3584528711, 113926993, 338241895, 666307205, 773529912, 1294757372, 1396182291, 1695183700, 1986661051, 2177026350, 2456956037, 2730485921, 2820302411, 3259730800, 3345764771, 3516065817, 3600352804, 4094571909, 275423344, 430227734, 506948616, 659060556, 883997877, 958139571, 1322822218, 1537002063, 1747873779, 1955562222, 2024104815, 2227730452, 2361852424, 2428436474, 2756734187, 3204031479, 3329325298]

def t1 (s : St) (k w : Nat) : Nat := (s.h + Sig1 s.e + chs s.e s.f s.g + k + w) % 4294967296
def t2 (s : St) : Nat := (Sig0 s.a + maj s.a s.b s.c) % 4294967296
def St.step (s : St) (k w : Nat) : St := ⟨(t1 s k w + t2 s) % 4294967296, s.a, s.b, s.c, (s.d + t1 s k w) % 4294967296, s.e, s.f, s.g⟩
theorem step_ok {s : St} (h : s.ok) (k w : Nat) : (s.step k w).ok := by
  obtain ⟨ha, hb, hc, hd, he, hf, hg, hh⟩ := h
  exact ⟨Nat.mod_lt _ (by decide), ha, hb, hc, Nat.mod_lt _ (by decide), he, hf, hg⟩
def St.add (s v : St) : St := ⟨(s.a + v.a) % 4294967296, (s.b + v.b) % 4294967296, (s.c + v.c) % 4294967296, (s.d + v.d) % 4294967296, (s.e + v.e) % 4294967296, (s.f + v.f) % 4294967296, (s.g + v.g) % 4294967296, (s.h + v.h) % 4294967296⟩
theorem add_ok (s v : St) : (s.add v).ok := ⟨Nat.mod_lt _ (by decide), Nat.mod_lt _ (by decide), Nat.mod_lt _ (by decide), Nat.mod_lt _ (by decide), Nat.mod_lt _ (by decide), Nat.mod_lt _ (by decide), Nat.mod_lt _ (by decide), Nat.mod_lt _ (by decide)⟩

/-! the schedule -/
/-- four bytes as a word -/
def word (b : List UInt8) (i : Nat) : Nat := (((b.getD (4 * i) 0).toNat * 256 + (b.getD (4 * i + 1) 0).toNat) * 256 + (b.getD (4 * i + 2) 0).toNat) * 256 + (b.getD (4 * i + 3) 0).toNat
theorem word_lt (b : List UInt8) (i : Nat) : word b i < 4294967296 := by
  unfold word
  have h0 := (b.getD (4 * i) 0).toNat_lt
  have h1 := (b.getD (4 * i + 1) 0).toNat_lt
  have h2 := (b.getD (4 * i + 2) 0).toNat_lt
  have h3 := (b.getD (4 * i + 3) 0).toNat_lt
  omega
/-- the first n words of a block -/
def words (b : List UInt8) (n : Nat) : List Nat := (List.range n).map (word b)
/-- the word behind some -/
def nextW (l : List Nat) : Nat := (l.getD (l.length - 16) 0 + sig0 (l.getD (l.length - 15) 0) + l.getD (l.length - 7) 0 + sig1 (l.getD (l.length - 2) 0)) % 4294967296
def more : Nat → List Nat → List Nat
  | 0, l => l
  | n + 1, l => more n (l ++ [nextW l])
def sched (b : List UInt8) : List Nat := more 48 (words b 16)
theorem more_length (n : Nat) (l : List Nat) : (more n l).length = l.length + n := by
  induction n generalizing l with
  | zero => rfl
  | succ n ih => rw [more, ih]; simp; omega
theorem more_succ (n : Nat) (l : List Nat) : more (n + 1) l = more n l ++ [nextW (more n l)] := by
  induction n generalizing l with
  | zero => rfl
  | succ n ih => rw [more, ih (l ++ [nextW l])]; rfl
theorem sched_length (b : List UInt8) : (sched b).length = 64 := by simp [sched, more_length, words]
theorem nextW_lt (l : List Nat) : nextW l < 4294967296 := Nat.mod_lt _ (by decide)
theorem more_lt (n : Nat) (l : List Nat) (h : ∀ x ∈ l, x < 4294967296) : ∀ x ∈ more n l, x < 4294967296 := by
  induction n generalizing l with
  | zero => exact h
  | succ n ih =>
    refine ih _ fun x hx => ?_
    rcases List.mem_append.1 hx with hx | hx
    · exact h x hx
    · rw [List.mem_singleton.1 hx]; exact nextW_lt l
theorem words_lt (b : List UInt8) (n : Nat) : ∀ x ∈ words b n, x < 4294967296 := by
  intro x hx
  obtain ⟨i, _, rfl⟩ := List.mem_map.1 hx
  exact word_lt b i
theorem sched_lt (b : List UInt8) : ∀ x ∈ sched b, x < 4294967296 := more_lt _ _ (words_lt b 16)
theorem getD_lt {l : List Nat} {N : Nat} (h : ∀ x ∈ l, x < N) (hN : 0 < N) (i : Nat) : l.getD i 0 < N := by
  rw [List.getD_eq_getElem?_getD]
  cases e : l[i]? with
  | none => exact hN
  | some x => exact h x (List.mem_of_getElem? e)

/-! a block taken in -/
def roundsTo (s : St) (ks ws : List Nat) : Nat → St
  | 0 => s
  | i + 1 => (roundsTo s ks ws i).step (ks.getD i 0) (ws.getD i 0)
theorem roundsTo_ok {s : St} (h : s.ok) (ks ws : List Nat) (i : Nat) : (roundsTo s ks ws i).ok := by
  induction i with
  | zero => exact h
  | succ i ih => exact step_ok ih _ _
/-- the state behind a block -/
def St.mix (s : St) (b : List UInt8) : St := s.add (roundsTo s rootsL (sched b) 64)
theorem mix_ok (s : St) (b : List UInt8) : (s.mix b).ok := add_ok _ _
theorem start_ok : start.ok := by unfold St.ok start; decide

/-- the state behind n blocks of some bytes -/
def blocksTo (s : St) (l : List UInt8) : Nat → St
  | 0 => s
  | n + 1 => (blocksTo s l n).mix ((l.drop (64 * n)).take 64)

/-- bytes with their padding -/
def pad (l : List UInt8) : List UInt8 := l ++ 128 :: List.replicate ((119 - l.length % 64) % 64) 0 ++ be (8 * l.length) 8
theorem pad_length (l : List UInt8) : (pad l).length = 64 * ((l.length + 72) / 64) := by
  simp [pad, be_length]
  omega
def St.bytes (s : St) : List UInt8 := s.list.flatMap fun x => be x 4
/-- the digest -/
def shaL (l : List UInt8) : List UInt8 := (blocksTo start (pad l) ((l.length + 72) / 64)).bytes
theorem shaL_length (l : List UInt8) : (shaL l).length = 32 := by
  simp [shaL, St.bytes, St.list, be_length]
theorem abc_is : shaL [97, 98, 99] = [186, 120, 22, 191, 143, 1, 207, 234, 65, 65, 64, 222, 93, 174, 34, 35, 176, 3, 97, 163, 150, 23, 122, 156, 180, 16, 255, 97, 242, 0, 21, 173] := by kernel_rfl
end Go.Proofs.YtbhoeiopckmfhaaGreatDoor

namespace Go.Proofs.YtbhoeiopckmfhaaGreatDoor
open Go.RowKit

theorem grownBy_trans {a b c : World} {row : Option Nat} (h : a.grownBy b row) (k : b.grownBy c row) : a.grownBy c row :=
  ⟨k.os.trans h.os, k.tape.trans h.tape, k.output.trans h.output, Nat.le_trans h.size k.size, fun i hi hne => (k.block i (Nat.lt_of_lt_of_le hi h.size) hne).trans (h.block i hi hne)⟩
theorem grownBy_any {a b : World} (h : a.grownBy b none) (row : Option Nat) : a.grownBy b row := ⟨h.os, h.tape, h.output, h.size, fun i hi _ => h.block i hi (by simp)⟩
theorem grownBy_below {a b : World} (h : Below a.heap.size a b) : a.grownBy b none := ⟨h.os, h.tape, h.output, h.size, fun i hi _ => h.block i hi⟩
theorem below_grownBy {a b : World} (h : a.grownBy b none) : Below a.heap.size a b := ⟨h.os, h.tape, h.output, h.size, fun i hi => h.block i hi (by simp)⟩
theorem grownBy_drew {a b : World} {row : Option Nat} (h : a.grownBy b row) : a.grownBy b.drew row := ⟨h.os, h.tape, h.output, h.size, h.block⟩
theorem grownBy_setCell {a b : World} {r : Nat} (h : a.grownBy b (some r)) (o : Nat) (u : Value) : a.grownBy (b.setCell ⟨r, o, none⟩ u) (some r) :=
  ⟨h.os, h.tape, h.output, by simpa [World.setCell] using h.size, fun i hi hne => (Below.heap_setCell _ _ _ _ (by intro e; exact hne (by simpa using e))).trans (h.block i hi hne)⟩
theorem grownBy_alloc' {a b : World} {row : Option Nat} (h : a.grownBy b row) (o : Obj) : a.grownBy (b.alloc o) row :=
  ⟨h.os, h.tape, h.output, by simp; have := h.size; omega, fun i hi hne => (Below.heap_alloc _ _ _ (Nat.lt_of_lt_of_le hi h.size)).trans (h.block i hi hne)⟩
theorem cell_of {w : World} {b : Nat} {cs : Array Value} {t : TypeId} {fr : Nat × Nat} (h : w.heap[b]? = some (.cells cs t fr)) (j : Nat) : w.cell? ⟨b, j, none⟩ = cs[j]? := by
  simp [World.cell?, h]
theorem free_of {w : World} {b : Nat} {cs : Array Value} {t : TypeId} (h : w.heap[b]? = some (.cells cs t (0, 0))) (j : Nat) : w.frozen? ⟨b, j, none⟩ = false := by
  simp [World.frozen?, h]
theorem heap_setCell {w : World} {b : Nat} {cs : Array Value} {t : TypeId} {fr : Nat × Nat} (h : w.heap[b]? = some (.cells cs t fr)) (j : Nat) (u : Value) :
    (w.setCell ⟨b, j, none⟩ u).heap[b]? = some (.cells (cs.setIfInBounds j u) t fr) := by
  simp [World.setCell, Array.getElem?_modify, h]
theorem heap_alloc_at (w : World) (o : Obj) (k : Nat) (h : w.heap.size = k) : (w.alloc o).heap[k]? = some o := by
  show (w.heap.push o)[k]? = _
  simp [← h]
theorem grownBy_setNew {a b : World} {row : Option Nat} (h : a.grownBy b row) {k : Nat} (hk : a.heap.size ≤ k) (o : Nat) (u : Value) : a.grownBy (b.setCell ⟨k, o, none⟩ u) row :=
  ⟨h.os, h.tape, h.output, by simpa [World.setCell] using h.size, fun i hi hne => (Below.heap_setCell _ _ _ _ (by show i ≠ k; omega)).trans (h.block i hi hne)⟩
theorem grownBy_drewN {a b : World} {row : Option Nat} (h : a.grownBy b row) (n : Nat) : a.grownBy (b.drewN n) row := ⟨h.os, h.tape, h.output, h.size, h.block⟩
theorem size_setCell (w : World) (a : Addr) (u : Value) : (w.setCell a u).heap.size = w.heap.size := by simp [World.setCell]
theorem heap_setCell_ne (w : World) (k o : Nat) (u : Value) {i : Nat} (h : k ≠ i) : (w.setCell ⟨k, o, none⟩ u).heap[i]? = w.heap[i]? := Below.heap_setCell _ _ _ _ (fun e => h e.symm)
theorem emp (s : ByteArray) : s.toList.isEmpty = decide (s.size = 0) := by
  rw [ByteArray.toList_eq, Bool.eq_iff_iff]
  simp [List.isEmpty_iff, ← ByteArray.size_data, Array.size_eq_zero_iff]
theorem wrap_u64 (n : Nat) (h : n ≤ 18446744073709551615) : IntKind.u64.wrap (n : Int) = (n : Int) := by
  simp only [IntKind.wrap, IntKind.bits, IntKind.signed, IntKind.min, IntKind.max]; simp; omega
/-- a run of cells, as one block -/
theorem heap_setCells {t : TypeId} {b : Nat} : ∀ (vs : List Value) (o : Nat) (w : World) (cs : Array Value), w.heap[b]? = some (.cells cs t (0, 0)) → o + vs.length ≤ cs.size →
    (w.setCells b o vs).heap[b]? = some (.cells (cs.toList.take o ++ vs ++ cs.toList.drop (o + vs.length)).toArray t (0, 0))
  | [], o, w, cs, h, _ => by simp [World.setCells, h]
  | v :: r, o, w, cs, h, hl => by
    rw [World.setCells]
    have h1 := heap_setCell h o v
    simp only [List.length_cons] at hl
    rw [heap_setCells r (o + 1) _ _ h1 (by simp; omega)]
    congr 2
    apply congrArg
    have ho : o < cs.toList.length := by simp; omega
    rw [Array.toList_setIfInBounds, List.set_eq_take_append_cons_drop, if_pos ho]
    have e1 : (cs.toList.take o).length = o := by simp; omega
    have e2 : (cs.toList.take o ++ v :: cs.toList.drop (o + 1)).take (o + 1) = cs.toList.take o ++ [v] := by
      rw [List.take_append, e1]
      simp [List.take_take]
    have e3 : (cs.toList.take o ++ v :: cs.toList.drop (o + 1)).drop (o + 1 + r.length) = cs.toList.drop (o + (r.length + 1)) := by
      rw [List.drop_append, e1, List.drop_of_length_le (by omega)]
      rw [show o + 1 + r.length - o = r.length + 1 from by omega, List.drop_succ_cons, List.drop_drop]
      rw [List.nil_append]
      congr 1
      omega
    rw [e2, e3]
    simp
theorem size_setCells (b : Nat) : ∀ (vs : List Value) (o : Nat) (w : World), (w.setCells b o vs).heap.size = w.heap.size
  | [], _, _ => rfl
  | v :: r, o, w => by rw [World.setCells, size_setCells b r, size_setCell]
theorem heap_setCells_ne {b i : Nat} (h : b ≠ i) : ∀ (vs : List Value) (o : Nat) (w : World), (w.setCells b o vs).heap[i]? = w.heap[i]?
  | [], _, _ => rfl
  | v :: r, o, w => by rw [World.setCells, heap_setCells_ne h r, heap_setCell_ne _ _ _ _ h]
theorem grownBy_setCellsNew {a : World} {row : Option Nat} {k : Nat} (hk : a.heap.size ≤ k) : ∀ (vs : List Value) (o : Nat) (b : World), a.grownBy b row → a.grownBy (b.setCells k o vs) row
  | [], _, _, h => h
  | v :: r, o, b, h => by rw [World.setCells]; exact grownBy_setCellsNew hk r (o + 1) _ (grownBy_setNew h hk o v)
theorem cell_lt {w : World} {b o : Nat} {v : Value} (h : w.cell? ⟨b, o, none⟩ = some v) : b < w.heap.size := by
  rcases Nat.lt_or_ge b w.heap.size with h1 | h1
  · exact h1
  · simp [World.cell?, Array.getElem?_eq_none h1] at h
theorem _root_.Go.World.grownBy.heap {w w' : World} {row : Option Nat} (h : w.grownBy w' row) {g : Nat} {o : Obj} (hg : w.heap[g]? = some o) (hr : row ≠ some g) : w'.heap[g]? = some o := by
  rw [h.block g (Array.getElem?_eq_some_iff.1 hg).1 (fun e => hr e.symm)]
  exact hg
end Go.Proofs.YtbhoeiopckmfhaaGreatDoor

namespace Go.Proofs.YtbhoeiopckmfhaaGreatDoor

def leftI (n : Int) : Int := if 0 ≤ n ∧ n ≤ 15 then 15 - n else 0
def lefts (L : List Int) : List Int := L.map leftI
def sumI (L : List Int) : Int := L.foldl (· + ·) 0
def halvesI (b : UInt8) : List Int := [(b.toNat : Int) / 16, (b.toNat : Int) % 16]
def digL (l : List UInt8) : List Int := l.flatMap halvesI
def chk (n : Int) : List Int := [n / 256, n / 16 % 16, n % 16]
/-- a digest's digits, and its check's -/
def digs (l : List UInt8) : List Int := digL l ++ chk (sumI (lefts (digL l)))

theorem lefts_length (L : List Int) : (lefts L).length = L.length := by simp [lefts]
theorem leftI_yes (n : Int) (h : 0 ≤ n) (h2 : n ≤ 15) : leftI n = 15 - n := if_pos ⟨h, h2⟩
theorem leftI_no (n : Int) (h : ¬ (0 ≤ n ∧ n ≤ 15)) : leftI n = 0 := if_neg h
theorem leftI_bd (n : Int) : 0 ≤ leftI n ∧ leftI n ≤ 15 := by unfold leftI; split <;> omega
theorem sumI_nil : sumI [] = 0 := rfl
theorem sumI_snoc (L : List Int) (x : Int) : sumI (L ++ [x]) = sumI L + x := by simp [sumI]
theorem sumI_foldl (L : List Int) : ∀ k : Int, L.foldl (· + ·) k = k + sumI L := by
  induction L with
  | nil => intro k; simp [sumI]
  | cons x L ih =>
    intro k
    have e : sumI (x :: L) = 0 + x + sumI L := by unfold sumI; rw [List.foldl_cons, ih (0 + x)]; rfl
    rw [List.foldl_cons, ih (k + x), e]
    omega
theorem sumI_append (L M : List Int) : sumI (L ++ M) = sumI L + sumI M := by
  unfold sumI
  rw [List.foldl_append, sumI_foldl M]
  rfl
theorem sumI_bd (L : List Int) (h : ∀ x ∈ L, 0 ≤ x ∧ x ≤ 15) : 0 ≤ sumI L ∧ sumI L ≤ 15 * L.length := by
  suffices ∀ (k : Int), k + 0 ≤ L.foldl (· + ·) k ∧ L.foldl (· + ·) k ≤ k + 15 * L.length by simpa [sumI] using this 0
  induction L with
  | nil => intro k; simp
  | cons x L ih =>
    intro k
    have hx := h x (by simp)
    have := ih (fun y hy => h y (by simp [hy])) (k + x)
    simp only [List.foldl_cons, List.length_cons]
    omega
theorem digL_length (l : List UInt8) : (digL l).length = 2 * l.length := by
  induction l with
  | nil => rfl
  | cons c l ih =>
    have : digL (c :: l) = halvesI c ++ digL l := rfl
    rw [this, List.length_append, ih]
    simp [halvesI]
    omega
theorem digL_bd (l : List UInt8) : ∀ x ∈ digL l, 0 ≤ x ∧ x ≤ 15 := by
  intro x hx
  obtain ⟨b, _, hb⟩ := List.mem_flatMap.1 hx
  have hc := b.toNat_lt
  simp only [halvesI, List.mem_cons, List.not_mem_nil, or_false] at hb
  rcases hb with rfl | rfl <;> omega
theorem lefts_bd (L : List Int) : ∀ x ∈ lefts L, 0 ≤ x ∧ x ≤ 15 := by
  intro x hx
  obtain ⟨y, _, rfl⟩ := List.mem_map.1 hx
  exact leftI_bd y
theorem digL_snoc (l : List UInt8) (c : UInt8) : digL (l ++ [c]) = digL l ++ halvesI c := by simp [digL]
theorem digL_take (s : ByteArray) (k : Nat) (h : k < s.size) : digL (s.data.toList.take (k + 1)) = digL (s.data.toList.take k) ++ [(s[k].toNat : Int) / 16, (s[k].toNat : Int) % 16] := by
  rw [List.take_succ_eq_append_getElem (by simpa using h), digL_snoc]
  rfl
theorem sum_lefts_bd (l : List UInt8) : 0 ≤ sumI (lefts (digL l)) ∧ sumI (lefts (digL l)) ≤ 30 * l.length := by
  have := sumI_bd (lefts (digL l)) (lefts_bd _)
  rw [lefts_length, digL_length] at this
  omega
theorem digs_length (l : List UInt8) : (digs l).length = 2 * l.length + 3 := by
  unfold digs
  rw [List.length_append, digL_length]
  rfl
theorem digs_bd (l : List UInt8) (h : l.length = 16) : ∀ x ∈ digs l, 0 ≤ x ∧ x ≤ 15 := by
  intro x hx
  rcases List.mem_append.1 hx with hx | hx
  · exact digL_bd l x hx
  · have := sum_lefts_bd l
    simp only [chk, List.mem_cons, List.not_mem_nil, or_false] at hx
    rcases hx with rfl | rfl | rfl <;> omega
end Go.Proofs.YtbhoeiopckmfhaaGreatDoor

namespace Go.Proofs.YtbhoeiopckmfhaaGreatDoor

/-- noughts -/
def zeros (n : Nat) : List UInt8 := List.replicate n 0
/-- a text with noughts behind: 64 bytes -/
def fullL (l : List UInt8) : List UInt8 := l ++ zeros (64 - l.length)
theorem fullL_length (l : List UInt8) (h : l.length ≤ 64) : (fullL l).length = 64 := by simp [fullL, zeros]; omega
/-- the first k bytes of the new over the old -/
def tornL (old new : List UInt8) (k : Nat) : List UInt8 := new.take k ++ old.drop k
theorem tornL_length (old new : List UInt8) (k : Nat) (h : old.length = 64) (h2 : new.length = 64) : (tornL old new k).length = 64 := by simp [tornL]; omega

structure DiskS where
  last : List (List UInt8)
  wait : List (Nat × List UInt8)
  on : Bool
  fuse : Int
  keep : List UInt8

/-- what lasts behind a Sync -/
def syncL : List (List UInt8) → List (Nat × List UInt8) → List (List UInt8)
  | l, [] => l
  | l, x :: r => syncL (l.set x.1 x.2) r
/-- what lasts behind a Cut -/
def cutL : List (List UInt8) → List (Nat × List UInt8) → List UInt8 → List (List UInt8)
  | l, [], _ => l
  | l, _ :: _, [] => l
  | l, x :: r, k :: ks => cutL (l.set x.1 (tornL (l.getD x.1 []) x.2 (min k.toNat 64))) r ks
/-- the last writing of a sector -/
def lastOf : List (Nat × List UInt8) → Nat → Option (List UInt8)
  | [], _ => none
  | x :: r, i => match lastOf r i with
    | some s => some s
    | none => if x.1 = i then some x.2 else none
def readL (last : List (List UInt8)) (wait : List (Nat × List UInt8)) (i : Nat) : List UInt8 := (lastOf wait i).getD (last.getD i [])

/-- sectors of 64 bytes -/
def Secs (l : List (List UInt8)) : Prop := ∀ s ∈ l, s.length = 64
/-- writings that may wait -/
def Waits (n : Nat) (l : List (Nat × List UInt8)) : Prop := ∀ x ∈ l, x.1 < n ∧ x.2.length = 64

theorem Secs.set {l : List (List UInt8)} (h : Secs l) (i : Nat) {s : List UInt8} (hs : s.length = 64) : Secs (l.set i s) := by
  intro x hx
  rcases List.mem_or_eq_of_mem_set hx with h1 | rfl
  · exact h x h1
  · exact hs
theorem Secs.at {l : List (List UInt8)} (h : Secs l) {i : Nat} (hi : i < l.length) : (l.getD i []).length = 64 := by
  rw [List.getD_eq_getElem?_getD, List.getElem?_eq_getElem hi]
  exact h _ (List.getElem_mem hi)
theorem Waits.snoc {n : Nat} {l : List (Nat × List UInt8)} (h : Waits n l) {i : Nat} (hi : i < n) {s : List UInt8} (hs : s.length = 64) : Waits n (l ++ [(i, s)]) := by
  intro x hx
  rcases List.mem_append.1 hx with h1 | h1
  · exact h x h1
  · rw [List.mem_singleton.1 h1]; exact ⟨hi, hs⟩
theorem syncL_length : ∀ (w : List (Nat × List UInt8)) (l : List (List UInt8)), (syncL l w).length = l.length
  | [], _ => rfl
  | x :: r, l => by rw [syncL, syncL_length r]; simp
theorem syncL_secs {n : Nat} : ∀ (w : List (Nat × List UInt8)) (l : List (List UInt8)), Secs l → Waits n w → Secs (syncL l w)
  | [], _, h, _ => h
  | x :: r, l, h, hw => by rw [syncL]; exact syncL_secs (n := n) r _ (h.set _ (hw x (by simp)).2) (fun y hy => hw y (by simp [hy]))
theorem syncL_snoc (w : List (Nat × List UInt8)) (x : Nat × List UInt8) : ∀ l : List (List UInt8), syncL l (w ++ [x]) = (syncL l w).set x.1 x.2 := by
  induction w with
  | nil => intro l; rfl
  | cons y r ih => intro l; rw [List.cons_append, syncL, ih, syncL]
theorem cutL_length : ∀ (w : List (Nat × List UInt8)) (ks : List UInt8) (l : List (List UInt8)), (cutL l w ks).length = l.length
  | [], _, _ => by rw [cutL]
  | _ :: _, [], _ => by rw [cutL]
  | x :: r, k :: ks, l => by rw [cutL, cutL_length r]; simp
theorem cutL_secs {n : Nat} : ∀ (w : List (Nat × List UInt8)) (ks : List UInt8) (l : List (List UInt8)), l.length = n → Secs l → Waits n w → Secs (cutL l w ks)
  | [], _, _, _, h, _ => by rw [cutL]; exact h
  | _ :: _, [], _, _, h, _ => by rw [cutL]; exact h
  | x :: r, k :: ks, l, hn, h, hw => by
    rw [cutL]
    have hx := hw x (by simp)
    exact cutL_secs r ks _ (by simpa using hn) (h.set _ (tornL_length _ _ _ (h.at (by omega)) hx.2)) (fun y hy => hw y (by simp [hy]))
theorem cutL_none (l : List (List UInt8)) (w : List (Nat × List UInt8)) : cutL l w [] = l := by cases w <;> rw [cutL]
theorem lastOf_snoc (w : List (Nat × List UInt8)) (x : Nat × List UInt8) (i : Nat) : lastOf (w ++ [x]) i = if x.1 = i then some x.2 else lastOf w i := by
  induction w with
  | nil => simp [lastOf]
  | cons y r ih =>
    rw [List.cons_append, lastOf, ih]
    by_cases h : x.1 = i
    · simp [h]
    · simp only [h, if_false]; rfl
theorem lastOf_len {n : Nat} : ∀ (w : List (Nat × List UInt8)) (i : Nat) (s : List UInt8), Waits n w → lastOf w i = some s → s.length = 64
  | [], _, _, _, h => by simp [lastOf] at h
  | x :: r, i, s, hw, h => by
    rw [lastOf] at h
    cases e : lastOf r i with
    | some t => rw [e] at h; simp at h; subst h; exact lastOf_len r i t (fun y hy => hw y (by simp [hy])) e
    | none => rw [e] at h; simp at h; rw [← h.2]; exact (hw x (by simp)).2
theorem readL_length {n : Nat} {last : List (List UInt8)} {wait : List (Nat × List UInt8)} (h : Secs last) (hn : last.length = n) (hw : Waits n wait) {i : Nat} (hi : i < n) : (readL last wait i).length = 64 := by
  unfold readL
  cases e : lastOf wait i with
  | some s => exact lastOf_len wait i s hw e
  | none => exact h.at (by omega)

/-! ### By numbers from the end: what a walk from the last one on has seen -/
/-- m - 1, m - 2, .. : k of them -/
def downs (m : Nat) (k : Nat) : List Nat := (List.range k).map fun j => m - 1 - j
theorem downs_succ (m k : Nat) : downs m (k + 1) = downs m k ++ [m - 1 - k] := by simp [downs, List.range_succ]
theorem downs_length (m k : Nat) : (downs m k).length = k := by simp [downs]
theorem downs_prefix (m k : Nat) (h : k ≤ m) : downs m k <+: downs m m := by
  have : ∀ j, downs m k <+: downs m (k + j) := by
    intro j
    induction j with
    | zero => exact List.prefix_refl _
    | succ j ih => rw [show k + (j + 1) = (k + j) + 1 from by omega, downs_succ]; exact ih.trans (List.prefix_append _ _)
  have := this (m - k)
  rwa [show k + (m - k) = m from by omega] at this
theorem lastOf_take (w : List (Nat × List UInt8)) (i : Nat) : ∀ j, j ≤ w.length → (∀ x, j ≤ x → x < w.length → (w.getD x (0, [])).1 ≠ i) → lastOf w i = lastOf (w.take j) i := by
  intro j hj
  induction hn : w.length - j generalizing j with
  | zero => intro _; rw [List.take_of_length_le (by omega)]
  | succ n ih =>
    intro h
    rw [ih (j + 1) (by omega) (by omega) (fun x hx hx2 => h x (by omega) hx2)]
    have hlt : j < w.length := by omega
    rw [← List.take_append_getElem hlt, lastOf_snoc, if_neg]
    have := h j (Nat.le_refl _) hlt
    rwa [List.getD_eq_getElem?_getD, List.getElem?_eq_getElem hlt] at this
/-- none of them all -/
theorem readL_none (last : List (List UInt8)) (w : List (Nat × List UInt8)) (i : Nat) (h : ∀ k ∈ downs w.length w.length, (w.getD k (0, [])).1 ≠ i) : readL last w i = last.getD i [] := by
  unfold readL
  rw [lastOf_take w i 0 (by omega) (fun x _ hx => h x (List.mem_map.2 ⟨w.length - 1 - x, List.mem_range.2 (by omega), by omega⟩))]
  rfl
/-- the first that is met -/
theorem readL_found (last : List (List UInt8)) (w : List (Nat × List UInt8)) (i k : Nat) (hk : k < w.length) (h : ∀ j ∈ downs w.length k, (w.getD j (0, [])).1 ≠ i) (hi : (w.getD (w.length - 1 - k) (0, [])).1 = i) : readL last w i = (w.getD (w.length - 1 - k) (0, [])).2 := by
  unfold readL
  have hlt : w.length - 1 - k < w.length := by omega
  rw [lastOf_take w i (w.length - 1 - k + 1) (by omega) (fun x hx hx2 => h x (List.mem_map.2 ⟨w.length - 1 - x, List.mem_range.2 (by omega), by omega⟩))]
  have e : w.getD (w.length - 1 - k) (0, []) = w[w.length - 1 - k] := by rw [List.getD_eq_getElem?_getD, List.getElem?_eq_getElem hlt]; rfl
  rw [e] at hi ⊢
  rw [← List.take_append_getElem hlt, lastOf_snoc, if_pos hi]
  rfl

/-! ### A Cut, writing by writing -/
theorem cutL_snoc : ∀ (w : List (Nat × List UInt8)) (x : Nat × List UInt8) (ks : List UInt8) (l : List (List UInt8)) (h : w.length < ks.length),
    cutL l (w ++ [x]) ks = (cutL l w ks).set x.1 (tornL ((cutL l w ks).getD x.1 []) x.2 (min (ks[w.length]).toNat 64))
  | [], x, k :: ks, l, _ => by rw [List.nil_append, cutL, cutL, cutL]; rfl
  | y :: r, x, k :: ks, l, h => by
    rw [List.cons_append, cutL, cutL, cutL_snoc r x ks _ (by simpa using h)]
    rfl
theorem cutL_take : ∀ (w : List (Nat × List UInt8)) (ks : List UInt8) (l : List (List UInt8)), cutL l (w.take (min ks.length w.length)) ks = cutL l w ks
  | [], ks, l => by simp
  | _ :: _, [], l => by simp [cutL]
  | y :: r, k :: ks, l => by
    rw [show min (k :: ks).length (y :: r).length = min ks.length r.length + 1 from by simp, List.take_succ_cons, cutL, cutL, cutL_take r ks]
end Go.Proofs.YtbhoeiopckmfhaaGreatDoor

namespace Go.Proofs.YtbhoeiopckmfhaaGreatDoor
open Go.RowKit

/-- w' is as w was, but for the blocks of S, and new ones -/
structure Turn (S : Nat → Prop) (w w' : World) : Prop where
  os : w'.os = w.os
  tape : w'.tape = w.tape
  output : w'.output = w.output
  size : w.heap.size ≤ w'.heap.size
  block : ∀ i, i < w.heap.size → ¬ S i → w'.heap[i]? = w.heap[i]?
/-- the blocks that were made between two worlds -/
def madeIn (w w' : World) (i : Nat) : Prop := w.heap.size ≤ i ∧ i < w'.heap.size
theorem Turn.refl (S : Nat → Prop) (w : World) : Turn S w w := ⟨rfl, rfl, rfl, Nat.le_refl _, fun _ _ _ => rfl⟩
theorem Turn.mono {S T : Nat → Prop} {w w' : World} (h : Turn S w w') (hs : ∀ i, i < w.heap.size → S i → T i) : Turn T w w' := ⟨h.os, h.tape, h.output, h.size, fun i hi hn => h.block i hi (fun q => hn (hs i hi q))⟩
theorem Turn.trans {S T : Nat → Prop} {a b c : World} (h : Turn S a b) (k : Turn T b c) (hs : ∀ i, i < a.heap.size → T i → S i) : Turn S a c :=
  ⟨k.os.trans h.os, k.tape.trans h.tape, k.output.trans h.output, Nat.le_trans h.size k.size, fun i hi hn => (k.block i (Nat.lt_of_lt_of_le hi h.size) (fun q => hn (hs i hi q))).trans (h.block i hi hn)⟩
theorem Turn.then {S : Nat → Prop} {a b c : World} (h : Turn S a b) (k : Turn S b c) : Turn S a c := h.trans k (fun _ _ q => q)
theorem Turn.grown {S : Nat → Prop} {a b c : World} (h : Turn S a b) (k : b.grownBy c none) : Turn S a c := h.then ⟨k.os, k.tape, k.output, k.size, fun i hi _ => k.block i hi (by simp)⟩
theorem Turn.of_grown {S : Nat → Prop} {a b : World} (k : a.grownBy b none) : Turn S a b := (Turn.refl S a).grown k
theorem Turn.row {S : Nat → Prop} {a b c : World} (h : Turn S a b) {row : Option Nat} (k : b.grownBy c row) (hs : ∀ i, i < a.heap.size → row = some i → S i) : Turn S a c :=
  h.trans (T := fun i => row = some i) ⟨k.os, k.tape, k.output, k.size, fun i hi hn => k.block i hi (fun e => hn e.symm)⟩ hs
theorem Turn.drew {S : Nat → Prop} {a b : World} (h : Turn S a b) : Turn S a b.drew := ⟨h.os, h.tape, h.output, h.size, h.block⟩
theorem Turn.alloc {S : Nat → Prop} {a b : World} (h : Turn S a b) (o : Obj) : Turn S a (b.alloc o) := h.grown (World.grownBy_alloc b o none)
theorem Turn.setCell {S : Nat → Prop} {a b : World} (h : Turn S a b) {k : Nat} (hk : k < a.heap.size → S k) (o : Nat) (u : Value) : Turn S a (b.setCell ⟨k, o, none⟩ u) :=
  ⟨h.os, h.tape, h.output, by rw [size_setCell]; exact h.size, fun i hi hn => by rw [heap_setCell_ne _ _ _ _ (fun e => hn (by rw [← e]; exact hk (by omega)))]; exact h.block i hi hn⟩
theorem Turn.setCells {S : Nat → Prop} {a b : World} (h : Turn S a b) {k : Nat} (hk : k < a.heap.size → S k) (o : Nat) (vs : List Value) : Turn S a (b.setCells k o vs) :=
  ⟨by rw [← h.os]; induction vs generalizing o b with | nil => rfl | cons v r ih => exact ih (b := b.setCell _ v) (h.setCell hk o v) _,
   by rw [← h.tape]; induction vs generalizing o b with | nil => rfl | cons v r ih => exact ih (b := b.setCell _ v) (h.setCell hk o v) _,
   by rw [← h.output]; induction vs generalizing o b with | nil => rfl | cons v r ih => exact ih (b := b.setCell _ v) (h.setCell hk o v) _,
   by rw [size_setCells]; exact h.size, fun i hi hn => by rw [heap_setCells_ne (fun e => hn (by rw [← e]; exact hk (by omega)))]; exact h.block i hi hn⟩
theorem Turn.below {S : Nat → Prop} {B : Nat} {w0 w w' : World} (h : Below B w0 w) (k : Turn S w w') (hB : B ≤ w.heap.size) (hs : ∀ i, i < B → ¬ S i) : Below B w0 w' :=
  ⟨k.os.trans h.os, k.tape.trans h.tape, k.output.trans h.output, Nat.le_trans h.size k.size, fun i hi => (k.block i (Nat.lt_of_lt_of_le hi hB) (hs i hi)).trans (h.block i hi)⟩
theorem Turn.cell {S : Nat → Prop} {w w' : World} (h : Turn S w w') {b : Nat} (hb : b < w.heap.size) (hn : ¬ S b) (o : Nat) : w'.cell? ⟨b, o, none⟩ = w.cell? ⟨b, o, none⟩ := World.cell?_of_block (h.block b hb hn)
theorem Turn.heap {S : Nat → Prop} {w w' : World} (h : Turn S w w') {b : Nat} {o : Obj} (hb : w.heap[b]? = some o) (hn : ¬ S b) : w'.heap[b]? = some o := by
  rw [h.block b (Array.getElem?_eq_some_iff.1 hb).1 hn]; exact hb

/-- an own row lies on, where its block does not turn -/
theorem own_turn {S : Nat → Prop} {w w' : World} {B : Nat} {e : TypeId} {size n : Nat} {v : Value} {xs : List Value} (h : w.ownsRow B e size v n xs) (k : Turn S w w') (hs : ∀ g, v.ownBlock = some g → ¬ S g) : w'.ownsRow B e size v n xs := by
  refine ⟨h.1, ?_⟩
  rcases h.2 with h' | ⟨g, cap, cur, rfl, b, hg, r⟩
  · exact .inl h'
  · exact .inr ⟨g, cap, cur, rfl, b, k.heap hg (hs g rfl), r⟩

/-- the blocks from n0 on that are none of X -/
def rest (n0 : Nat) (X : List Nat) (i : Nat) : Prop := n0 ≤ i ∧ i ∉ X
theorem Turn.inX {n0 : Nat} {X : List Nat} {w w' : World} {x : Nat} {o : Obj} (k : Turn (rest n0 X) w w') (hx : x ∈ X) (h : w.heap[x]? = some o) : w'.heap[x]? = some o := k.heap h (fun q => q.2 hx)
theorem Turn.bel {n0 : Nat} {X : List Nat} {w0 w w' : World} (k : Turn (rest n0 X) w w') (h : Below n0 w0 w) (hn : n0 ≤ w.heap.size) : Below n0 w0 w' := k.below h hn (fun i hi q => by have := q.1; omega)
theorem rest_mono {n0 : Nat} {X Y : List Nat} (h : ∀ x ∈ X, x ∈ Y) {w w' : World} (k : Turn (rest n0 Y) w w') : Turn (rest n0 X) w w' := k.mono (fun _ _ q => ⟨q.1, fun hx => q.2 (h _ hx)⟩)

end Go.Proofs.YtbhoeiopckmfhaaGreatDoor

namespace Go.Proofs.YtbhoeiopckmfhaaGreatDoor
open Go.RowKit

def bytesV (l : List UInt8) : List Value := l.map fun c => .int .u8 c.toNat
theorem infoB : (Tryz.prog.info? 5).map (fun i => (i.zero, i.size, i.bytes)) = some (some (.int .u8 0), 1, 1) := by kernel_rfl
theorem made_bytes (n : Nat) : (madeCells #[Value.int .u8 0] n).toList = bytesV (List.replicate n 0) := by
  apply List.ext_getElem?
  intro i
  simp [madeCells, bytesV, List.getElem?_replicate]
  by_cases h : i < n <;> simp [h, Nat.mod_one]
/-- 'string(b)', b a row of the call's own that holds bytes -/
theorem own_str {wr : World} {B g k cap : Nat} {l : List UInt8} (h : wr.ownsRow B 5 1 (.slice (some ⟨g, 0, none⟩) k cap) k (bytesV l)) :
    (convert 23 9 (.slice (some ⟨g, 0, none⟩) k cap)).run Tryz.prog wr = .ok (.string (str l)) wr := by
  have hl : l.length = k := by simpa [bytesV] using h.1
  subst hl
  refine run_convert_bytes_back wr 23 9 5 _ cap l Tryz.underlying23 Tryz.underlying5 Tryz.underlying9 fun j hj => ?_
  rw [show Addr.add ⟨g, 0, none⟩ j = (⟨g, j, none⟩ : Addr) from by simp [Addr.add]; omega, h.cellAt j (by simpa using hj)]
  simp [bytesV, List.getElem?_eq_getElem hj]
/-- 'string(b[:])', b a block of bytes -/
theorem blk_str {w : World} {g : Nat} {l : List UInt8} {t : TypeId} (h : w.heap[g]? = some (.cells (bytesV l).toArray t (0, 0))) (cap : Nat) :
    (convert 23 9 (.slice (some ⟨g, 0, none⟩) l.length cap)).run Tryz.prog w = .ok (.string (str l)) w := by
  refine run_convert_bytes_back w 23 9 5 _ cap l Tryz.underlying23 Tryz.underlying5 Tryz.underlying9 fun j hj => ?_
  rw [show Addr.add ⟨g, 0, none⟩ j = (⟨g, j, none⟩ : Addr) from by simp [Addr.add]; omega, cell_of h, List.getElem?_toArray]
  simp [bytesV, List.getElem?_eq_getElem hj]
end Go.Proofs.YtbhoeiopckmfhaaGreatDoor

namespace Go.Proofs.YtbhoeiopckmfhaaGreatDoor
open Go.RowKit

/-- the cells of a writing -/
def wcells (x : Nat × List UInt8) : List Value := .int .i64 (x.1 : Nat) :: bytesV x.2
theorem bytesV_length (l : List UInt8) : (bytesV l).length = l.length := by simp [bytesV]
theorem bytesV_append (a b : List UInt8) : bytesV (a ++ b) = bytesV a ++ bytesV b := by simp [bytesV]
theorem bytesV_take (l : List UInt8) (k : Nat) : (bytesV l).take k = bytesV (l.take k) := by simp [bytesV]
theorem bytesV_drop (l : List UInt8) (k : Nat) : (bytesV l).drop k = bytesV (l.drop k) := by simp [bytesV]
theorem bytesV_one (l : List UInt8) : ∀ v ∈ bytesV l, v.oneCell' = true := by
  intro v hv
  obtain ⟨c, _, rfl⟩ := List.mem_map.1 hv
  rfl
theorem wcells_length (x : Nat × List UInt8) (h : x.2.length = 64) : (wcells x).length = 65 := by simp [wcells, bytesV_length, h]
theorem wcells_one (x : Nat × List UInt8) : ∀ v ∈ wcells x, v.oneCell' = true := by
  intro v hv
  rcases List.mem_cons.1 hv with rfl | h
  · rfl
  · exact bytesV_one _ v h
def wflat (l : List (Nat × List UInt8)) : List Value := l.flatMap wcells
theorem wflat_snoc (l : List (Nat × List UInt8)) (x : Nat × List UInt8) : wflat (l ++ [x]) = wflat l ++ wcells x := by simp [wflat]
theorem wflat_length {n : Nat} : ∀ (l : List (Nat × List UInt8)), Waits n l → (wflat l).length = l.length * 65
  | [], _ => rfl
  | x :: r, h => by
    show (wcells x ++ wflat r).length = _
    rw [List.length_append, wcells_length x (h x (by simp)).2, wflat_length r (fun y hy => h y (by simp [hy])), List.length_cons]
    omega
theorem wflat_at {n : Nat} : ∀ (l : List (Nat × List UInt8)), Waits n l → ∀ (k : Nat) (hk : k < l.length) (j : Nat), j < 65 → (wflat l)[k * 65 + j]? = (wcells l[k])[j]?
  | [], _, k, hk, _, _ => by simp at hk
  | x :: r, h, k, hk, j, hj => by
    show (wcells x ++ wflat r)[_]? = _
    have hx := wcells_length x (h x (by simp)).2
    cases k with
    | zero => rw [List.getElem?_append_left (by omega), Nat.zero_mul, Nat.zero_add]; rfl
    | succ k =>
      rw [List.getElem?_append_right (by omega), hx, show (k + 1) * 65 + j - 65 = k * 65 + j from by omega, wflat_at r (fun y hy => h y (by simp [hy])) k (by simpa using hk) j hj]
      rfl
def sflat (l : List (List UInt8)) : List UInt8 := l.flatten
theorem sflat_length : ∀ (l : List (List UInt8)), Secs l → (sflat l).length = l.length * 64
  | [], _ => rfl
  | x :: r, h => by
    show (x ++ sflat r).length = _
    rw [List.length_append, h x (by simp), sflat_length r (fun y hy => h y (by simp [hy])), List.length_cons]
    omega
theorem sflat_mid : ∀ (l : List (List UInt8)), Secs l → ∀ (k : Nat) (hk : k < l.length), sflat l = (sflat l).take (k * 64) ++ (l[k] ++ (sflat l).drop (k * 64 + 64))
  | [], _, k, hk => by simp at hk
  | x :: r, h, k, hk => by
    have hx := h x (by simp)
    show x ++ sflat r = (x ++ sflat r).take _ ++ (_ ++ (x ++ sflat r).drop _)
    cases k with
    | zero =>
      rw [Nat.zero_mul, List.take_zero, List.nil_append, List.drop_append, List.drop_of_length_le (by omega : x.length ≤ 0 + 64), List.nil_append, show 0 + 64 - x.length = 0 from by omega, List.drop_zero]
      rfl
    | succ k =>
      have ih := sflat_mid r (fun y hy => h y (by simp [hy])) k (by simpa using hk)
      rw [List.take_append, List.take_of_length_le (by omega : x.length ≤ (k + 1) * 64), List.drop_append, List.drop_of_length_le (by omega : x.length ≤ (k + 1) * 64 + 64), List.nil_append,
        show (k + 1) * 64 - x.length = k * 64 from by omega, show (k + 1) * 64 + 64 - x.length = k * 64 + 64 from by omega, List.append_assoc]
      exact congrArg (x ++ ·) ih
theorem sflat_set : ∀ (l : List (List UInt8)), Secs l → ∀ (k : Nat) (_ : k < l.length) (s : List UInt8), sflat (l.set k s) = (sflat l).take (k * 64) ++ (s ++ (sflat l).drop (k * 64 + 64))
  | [], _, k, hk, _ => by simp at hk
  | x :: r, h, k, hk, s => by
    have hx := h x (by simp)
    cases k with
    | zero =>
      show s ++ sflat r = (x ++ sflat r).take _ ++ (_ ++ (x ++ sflat r).drop _)
      rw [Nat.zero_mul, List.take_zero, List.nil_append, List.drop_append, List.drop_of_length_le (by omega : x.length ≤ 0 + 64), List.nil_append, show 0 + 64 - x.length = 0 from by omega, List.drop_zero]
    | succ k =>
      show x ++ sflat (r.set k s) = (x ++ sflat r).take _ ++ (_ ++ (x ++ sflat r).drop _)
      have ih := sflat_set r (fun y hy => h y (by simp [hy])) k (by simpa using hk) s
      rw [List.take_append, List.take_of_length_le (by omega : x.length ≤ (k + 1) * 64), List.drop_append, List.drop_of_length_le (by omega : x.length ≤ (k + 1) * 64 + 64), List.nil_append,
        show (k + 1) * 64 - x.length = k * 64 from by omega, show (k + 1) * 64 + 64 - x.length = k * 64 + 64 from by omega, List.append_assoc]
      exact congrArg (x ++ ·) ih
theorem sflat_at (l : List (List UInt8)) (h : Secs l) (k : Nat) (hk : k < l.length) (j : Nat) (hj : j < 64) : (sflat l)[k * 64 + j]? = (l[k])[j]? := by
  have hs := h l[k] (List.getElem_mem hk)
  have hl := sflat_length l h
  rw [sflat_mid l h k hk, List.getElem?_append_right (by rw [List.length_take]; omega), List.getElem?_append_left (by rw [List.length_take]; omega), List.length_take, Nat.min_eq_left (by omega), Nat.add_sub_cancel_left]

/-- an own row, and what is spare behind it -/
theorem own_block {w : World} {B : Nat} {e : TypeId} {size g n cap : Nat} {xs : List Value} (h : w.ownsRow B e size (.slice (some ⟨g, 0, none⟩) n cap) n xs) :
    ∃ rest : List Value, w.heap[g]? = some (.cells (xs ++ rest).toArray e (0, 0)) ∧ (xs ++ rest).length = cap * size ∧ xs.length = n * size ∧ n ≤ cap ∧ cap ≤ maxLen ∧ B ≤ g := by
  obtain ⟨hl, h⟩ := h
  rcases h with ⟨h', _⟩ | ⟨g', cap', cur, h', hb, hg, hnc, hm, hcs, htake⟩
  · cases h'
  · cases h'
    refine ⟨cur.toList.drop (n * size), ?_, ?_, hl, hnc, hm, hb⟩
    · rw [← htake, List.take_append_drop]; exact hg
    · rw [← htake, List.take_append_drop]; simpa using hcs
theorem own_of {w : World} {B : Nat} {e : TypeId} {size g n cap : Nat} {xs rest : List Value} (h : w.heap[g]? = some (.cells (xs ++ rest).toArray e (0, 0))) (hz : (xs ++ rest).length = cap * size) (hl : xs.length = n * size) (hc : n ≤ cap) (hm : cap ≤ maxLen) (hb : B ≤ g) :
    w.ownsRow B e size (.slice (some ⟨g, 0, none⟩) n cap) n xs :=
  ⟨hl, .inr ⟨g, cap, _, rfl, hb, h, hc, hm, by simpa using hz, by rw [← hl]; simp⟩⟩
theorem own_form {w : World} {B : Nat} {e : TypeId} {size n : Nat} {v : Value} {xs : List Value} (h : w.ownsRow B e size v n xs) : (v = .slice none 0 0 ∧ n = 0) ∨ ∃ g cap, v = .slice (some ⟨g, 0, none⟩) n cap := by
  rcases h.2 with h | ⟨g, cap, _, h, _⟩
  · exact .inl h
  · exact .inr ⟨g, cap, h⟩

/-- block b is a disk that holds D: lv, wv, kv are its three slices -/
structure DiskMem (w : World) (b : Nat) (D : DiskS) (lv wv kv : Value) : Prop where
  disk : w.heap[b]? = some (.cells #[lv, wv, .bool D.on, .int .i64 D.fuse, kv] 101 (0, 0))
  last : w.ownsRow 0 126 64 lv D.last.length (bytesV (sflat D.last))
  wait : w.ownsRow 0 128 65 wv D.wait.length (wflat D.wait)
  keep : w.ownsRow 0 5 1 kv D.keep.length (bytesV D.keep)
  secs : Secs D.last
  waits : Waits D.last.length D.wait
  lb : lv.ownBlock ≠ some b
  wb : wv.ownBlock ≠ some b
  kb : kv.ownBlock ≠ some b
  lw : ∀ g, lv.ownBlock = some g → wv.ownBlock ≠ some g
  lk : ∀ g, lv.ownBlock = some g → kv.ownBlock ≠ some g
  wk : ∀ g, wv.ownBlock = some g → kv.ownBlock ≠ some g
/-- block b is a disk that holds D, all of whose blocks are in F -/
def DiskAt (F : Nat → Prop) (w : World) (b : Nat) (D : DiskS) : Prop :=
  ∃ lv wv kv, DiskMem w b D lv wv kv ∧ F b ∧ (∀ g, lv.ownBlock = some g → F g) ∧ (∀ g, wv.ownBlock = some g → F g) ∧ ∀ g, kv.ownBlock = some g → F g
theorem DiskMem.turn {S : Nat → Prop} {w w' : World} {b : Nat} {D : DiskS} {lv wv kv : Value} (h : DiskMem w b D lv wv kv) (k : Turn S w w') (hb : ¬ S b) (hl : ∀ g, lv.ownBlock = some g → ¬ S g) (hw : ∀ g, wv.ownBlock = some g → ¬ S g) (hk : ∀ g, kv.ownBlock = some g → ¬ S g) : DiskMem w' b D lv wv kv :=
  ⟨k.heap h.disk hb, own_turn h.last k hl, own_turn h.wait k hw, own_turn h.keep k hk, h.secs, h.waits, h.lb, h.wb, h.kb, h.lw, h.lk, h.wk⟩
theorem DiskMem.lt {w : World} {b : Nat} {D : DiskS} {lv wv kv : Value} (h : DiskMem w b D lv wv kv) : b < w.heap.size := (Array.getElem?_eq_some_iff.1 h.disk).1
theorem DiskAt.turn {F S : Nat → Prop} {w w' : World} {b : Nat} {D : DiskS} (h : DiskAt F w b D) (k : Turn S w w') (hF : ∀ i, i < w.heap.size → F i → ¬ S i) : DiskAt F w' b D := by
  obtain ⟨lv, wv, kv, m, f1, f2, f3, f4⟩ := h
  exact ⟨lv, wv, kv, m.turn k (hF _ m.lt f1) (fun g e => hF g (m.last.lt g e).2 (f2 g e)) (fun g e => hF g (m.wait.lt g e).2 (f3 g e)) (fun g e => hF g (m.keep.lt g e).2 (f4 g e)), f1, f2, f3, f4⟩
theorem DiskAt.grown {F : Nat → Prop} {w w' : World} {b : Nat} {D : DiskS} (h : DiskAt F w b D) (k : w.grownBy w' none) : DiskAt F w' b D := h.turn (S := fun _ => False) (Turn.of_grown k) (fun _ _ _ q => q)
theorem DiskAt.mono {F G : Nat → Prop} {w : World} {b : Nat} {D : DiskS} (h : DiskAt F w b D) (hF : ∀ i, i < w.heap.size → F i → G i) : DiskAt G w b D := by
  obtain ⟨lv, wv, kv, m, f1, f2, f3, f4⟩ := h
  exact ⟨lv, wv, kv, m, hF _ m.lt f1, fun g e => hF g (m.last.lt g e).2 (f2 g e), fun g e => hF g (m.wait.lt g e).2 (f3 g e), fun g e => hF g (m.keep.lt g e).2 (f4 g e)⟩
theorem DiskAt.lt {F : Nat → Prop} {w : World} {b : Nat} {D : DiskS} (h : DiskAt F w b D) : b < w.heap.size := by obtain ⟨_, _, _, m, _⟩ := h; exact m.lt
theorem DiskAt.own {F : Nat → Prop} {w : World} {b : Nat} {D : DiskS} (h : DiskAt F w b D) : F b := by obtain ⟨_, _, _, _, f, _⟩ := h; exact f
end Go.Proofs.YtbhoeiopckmfhaaGreatDoor

namespace Go.Proofs.YtbhoeiopckmfhaaGreatDoor
open Go.RowKit


/-- the pieces of a Writer, the last one first -/
def Chain (w : World) : Value → List ByteArray → Prop
  | v, [] => v = .pointer none
  | v, t :: ts => ∃ g v', v = .pointer (some ⟨g, 0, none⟩) ∧ w.heap[g]? = some (.cells #[v', .string t] 223 (0, 0)) ∧ Chain w v' ts

theorem Chain.ptr {w : World} {v : Value} {ts : List ByteArray} (h : Chain w v ts) : ∃ p, v = .pointer p := by
  cases ts with
  | nil => exact ⟨_, h⟩
  | cons t ts => obtain ⟨g, v', rfl, _⟩ := h; exact ⟨_, rfl⟩

theorem Chain.kept {w w' : World} {row : Option Nat} (hg : w.grownBy w' row) (hr : ∀ r, row = some r → ∀ v t, w.heap[r]? ≠ some (.cells #[v, .string t] 223 (0, 0))) :
    ∀ (ts : List ByteArray) (v : Value), Chain w v ts → Chain w' v ts
  | [], _, h => h
  | t :: ts, v, h => by
    obtain ⟨g, v', rfl, hb, hc⟩ := h
    refine ⟨g, v', rfl, ?_, Chain.kept hg hr ts v' hc⟩
    rw [hg.block g (Array.getElem?_eq_some_iff.1 hb).1 (fun e => hr g e.symm v' t hb)]
    exact hb

/-- a Writer's state: its pieces, the last one first; its error -/
structure WSt where
  ts : List ByteArray
  err : Int

def total (ts : List ByteArray) : Nat := (ts.map ByteArray.size).sum
def WSt.put (s : WSt) (t : ByteArray) : WSt := if s.err = 0 then ⟨t :: s.ts, 0⟩ else s
def WSt.fail (s : WSt) (e : Int) : WSt := if s.err = 0 then ⟨s.ts, e⟩ else s

/-- block b is a Writer in this state -/
def WrAt (w : World) (b : Nat) (s : WSt) : Prop :=
  ∃ last, w.heap[b]? = some (.cells #[last, .int .i64 (total s.ts : Nat), .int .i64 s.err] 179 (0, 0)) ∧ Chain w last s.ts

theorem WrAt.kept {w w' : World} {row : Option Nat} {b : Nat} {s : WSt} (h : WrAt w b s) (hg : w.grownBy w' row)
    (hb : row ≠ some b) (hr : ∀ r, row = some r → ∀ v t, w.heap[r]? ≠ some (.cells #[v, .string t] 223 (0, 0))) : WrAt w' b s := by
  obtain ⟨last, hl, hc⟩ := h
  refine ⟨last, ?_, hc.kept hg hr⟩
  rw [hg.block b (Array.getElem?_eq_some_iff.1 hl).1 (fun e => hb e.symm)]
  exact hl
theorem WrAt.grown {w w' : World} {b : Nat} {s : WSt} (h : WrAt w b s) (hg : w.grownBy w' none) : WrAt w' b s := h.kept hg (by simp) (by intro r e; cases e)
theorem WrAt.lt {w : World} {b : Nat} {s : WSt} (h : WrAt w b s) : b < w.heap.size := let ⟨_, hl, _⟩ := h; (Array.getElem?_eq_some_iff.1 hl).1

theorem total_cons (t : ByteArray) (ts : List ByteArray) : total (t :: ts) = t.size + total ts := by simp [total]

theorem WrAt.pushed {w : World} {b : Nat} {p : Option Addr} {s : ByteArray} {ts : List ByteArray} (hlt : b < w.heap.size)
    (hl : w.heap[b]? = some (.cells #[.pointer p, .int .i64 (total ts : Nat), .int .i64 0] 179 (0, 0))) (hc : Chain w (.pointer p) ts) :
    WrAt (((w.setCell ⟨b, 0, none⟩ (.pointer (some ⟨w.heap.size, 0, none⟩))).setCell ⟨b, 1, none⟩ (.int .i64 (↑(total ts) + ↑s.size))).alloc (.cells #[.pointer p, .string s] 223)) b ⟨s :: ts, 0⟩ ∧
    w.grownBy (((w.setCell ⟨b, 0, none⟩ (.pointer (some ⟨w.heap.size, 0, none⟩))).setCell ⟨b, 1, none⟩ (.int .i64 (↑(total ts) + ↑s.size))).alloc (.cells #[.pointer p, .string s] 223)) (some b) := by
  have hg : w.grownBy (((w.setCell ⟨b, 0, none⟩ (.pointer (some ⟨w.heap.size, 0, none⟩))).setCell ⟨b, 1, none⟩ (.int .i64 (↑(total ts) + ↑s.size))).alloc (.cells #[.pointer p, .string s] 223)) (some b) :=
    grownBy_alloc' (grownBy_setCell (grownBy_setCell (World.grownBy.refl _ _) _ _) _ _) _
  refine ⟨⟨.pointer (some ⟨w.heap.size, 0, none⟩), ?_, w.heap.size, .pointer p, rfl, ?_, ?_⟩, hg⟩
  · rw [Below.heap_alloc _ _ _ (by simpa [World.setCell] using hlt), heap_setCell (heap_setCell hl 0 _) 1 _, total_cons]
    simp
    omega
  · exact heap_alloc_at _ _ _ (by simp [World.setCell])
  · refine hc.kept hg ?_
    intro r e v t hr
    cases e
    rw [hl] at hr
    simp at hr

/-- a Writer's pointer: nil, or a block's head -/
def WsAt (w : World) (p : Option Addr) : Option WSt → Prop
  | none => p = none
  | some st => ∃ b, p = some ⟨b, 0, none⟩ ∧ WrAt w b st
/-- the block behind a pointer -/
def prow (p : Option Addr) : Option Nat := p.map Addr.block
/-- room for n bytes more -/
def WRoom (st : Option WSt) (n : Nat) : Prop := ∀ x, st = some x → n + total x.ts ≤ 9223372036854775807
theorem WsAt.grown {w w' : World} {p : Option Addr} {st : Option WSt} (h : WsAt w p st) (hg : w.grownBy w' none) : WsAt w' p st := by
  cases st with
  | none => exact h
  | some st => obtain ⟨b, hp, hw⟩ := h; exact ⟨b, hp, hw.grown hg⟩

/-- a number, written: or why not -/
def WSt.num (s : WSt) (n : Nat) (k : Int) : WSt := if 1 ≤ k ∧ k ≤ 8 ∧ n < 256 ^ k.toNat then s.put (str (be n k.toNat)) else s.fail 10
def WSt.text (s : WSt) (t : ByteArray) : WSt := if t.size ≤ 4096 then (s.put (str (be t.size 2))).put t else s.fail 2
def WSt.fixed (s : WSt) (t : ByteArray) (k : Int) : WSt := if (t.size : Int) = k then s.put t else s.fail 10

theorem total_put (s : WSt) (t : ByteArray) : total (s.put t).ts ≤ t.size + total s.ts := by
  unfold WSt.put
  split
  · rw [total_cons]; omega
  · omega
theorem total_fail (s : WSt) (e : Int) : total (s.fail e).ts = total s.ts := by
  unfold WSt.fail
  split <;> rfl

theorem num_fits (n k : Nat) (h1 : 1 ≤ k) : n / 2 ^ (8 * (k - 1)) ≤ 255 ↔ n < 256 ^ k := by
  have p : 2 ^ (8 * (k - 1)) = 256 ^ (k - 1) := by rw [Nat.pow_mul]
  rw [p]
  obtain ⟨j, rfl⟩ : ∃ j, k = j + 1 := ⟨k - 1, by omega⟩
  rw [Nat.add_sub_cancel, ← Nat.lt_succ_iff, Nat.div_lt_iff_lt_mul (Nat.pos_of_ne_zero (by simp)), Nat.pow_succ, Nat.mul_comm]
theorem num_fits_int (n k : Nat) (h1 : 1 ≤ k) : (n : Int) / 2 ^ (8 * (k - 1)) ≤ 255 ↔ n < 256 ^ k := by
  rw [← num_fits n k h1]
  have : ((n / 2 ^ (8 * (k - 1)) : Nat) : Int) = (n : Int) / 2 ^ (8 * (k - 1)) := by simp
  rw [← this]
  omega
theorem WsAt.fresh (w : World) : WsAt (w.alloc (.cells #[.pointer none, .int .i64 0, .int .i64 0] 179)) (some ⟨w.heap.size, 0, none⟩) (some ⟨[], 0⟩) :=
  ⟨_, rfl, .pointer none, heap_alloc_at _ _ _ rfl, rfl⟩
theorem WRoom.of (st : WSt) (n : Nat) (h : n + total st.ts ≤ 9223372036854775807) : WRoom (some st) n := by
  rintro x ⟨⟩
  exact h
end Go.Proofs.YtbhoeiopckmfhaaGreatDoor

namespace Go.Proofs.YtbhoeiopckmfhaaGreatDoor
open Go.RowKit

set_option maxHeartbeats 400000 in
theorem numMayBe_any (k : Int) (w : World) :
    Calls Tryz.prog 132 #[.int .i64 k] w fun e w' => e = .returned (.bool (decide (1 ≤ k) && decide (k ≤ 8))) ∧ w = w' := by
  by_cases h1 : 1 ≤ k
  · go_enter Tryz.func132, Tryz.ntmps132
    go_wp2
    go_ret
    exact ⟨by simp [h1], rfl⟩
  · go_enter Tryz.func132, Tryz.ntmps132
    go_wp2
    go_ret
    have h0 : decide (1 ≤ k) = false := decide_eq_false (by omega)
    exact ⟨by rw [h0]; rfl, rfl⟩

theorem infoByte : (Tryz.prog.info? 5).map (fun i => (i.zero, i.size, i.bytes)) = some (some (.int .u8 0), 1, 1) := by kernel_rfl

/-- 'string(b)', b a row of the call's own that holds bytes -/
theorem own_string {wr : World} {B g k cap : Nat} {l : List UInt8} (h : wr.ownsRow B 5 1 (.slice (some ⟨g, 0, none⟩) k cap) k (l.map fun c => .int .u8 c.toNat)) :
    (convert 23 9 (.slice (some ⟨g, 0, none⟩) k cap)).run Tryz.prog wr = .ok (.string (str l)) wr := by
  have hl : l.length = k := by simpa using h.1
  subst hl
  refine run_convert_bytes_back wr 23 9 5 _ cap l Tryz.underlying23 Tryz.underlying5 Tryz.underlying9 fun j hj => ?_
  rw [show Addr.add ⟨g, 0, none⟩ j = (⟨g, j, none⟩ : Addr) from by simp [Addr.add]; omega, h.cellAt j (by simpa using hj)]
  simp [List.getElem?_eq_getElem hj]

set_option maxHeartbeats 400000 in
theorem number_any (n : Nat) (k : Nat) (hn : n ≤ 18446744073709551615) (hk : k ≤ 8) (w : World) :
    Calls Tryz.prog 145 #[.int .u64 n, .int .i64 k] w fun e w' => e = .returned (.string (str (be n k))) ∧ Below w.heap.size w w' := by
  obtain ⟨i0, hi, hz0, hz1, hz2⟩ := info_parts infoByte
  go_enter Tryz.func145, Tryz.ntmps145
  go_wp2_with (at_make; refine wpList_make_full _ rfl _ _ 23 rfl w.heap.size 5 i0 (.int .u8 0) 1 Tryz.underlying23 hi hz0 hz1 _ _ _ _ k rfl rfl rfl rfl ?c1 ?c2 ?c3 ?_)
  case c1 => rw [hz2]; omega
  case c2 => unfold maxLen; omega
  case c3 => omega
  intro w1 hown hg
  rw [rowAt_zero n] at hown
  go_wp2_with fail
  go_loopw [6, 10] (fun _ i wr => ∃ j : Nat, j ≤ k ∧ i = .int .i64 j ∧ wr.ownsRow w.heap.size 5 1 (.slice (some ⟨w.heap.size, 0, none⟩) k k) k (rowAt n k j) ∧ Below w.heap.size w wr)
    (fun _ i _ => k - (intOf i).toNat)
  case atStart => exact ⟨0, Nat.zero_le _, rfl, hown, (Below.refl _ _).grown hg (Nat.le_refl _) (by intro k h; cases h)⟩
  case round =>
    clear hown hg
    obtain ⟨j, hj, rfl, hown, hb⟩ := hrel
    have hf := fun x => hown.frozenAt x
    by_cases hlt : j < k
    · have hc : wr.cell? ⟨w.heap.size, k - 1 - j, none⟩ = some (.int .u8 0) := by
        rw [hown.cellAt _ (by omega), rowAt_cell n k j hlt]
      go_wp2
      go_roundw
      case rel =>
        refine ⟨j + 1, by omega, by go_num, ?_, hb.setCell (Nat.le_refl _) _⟩
        rw [rowAt_succ n k j hlt]
        exact (hown.stored _ _).1
      case measure => simp [intOf]; omega
    · have : j = k := by omega
      subst this
      rw [rowAt_end] at hown
      have hs := own_string hown
      go_wp2
      go_ret
      exact ⟨rfl, hb⟩
end Go.Proofs.YtbhoeiopckmfhaaGreatDoor

namespace Go.Proofs.YtbhoeiopckmfhaaGreatDoor
open Go.RowKit

set_option maxHeartbeats 400000 in
theorem put_nil (s : ByteArray) (w : World) :
    Calls Tryz.prog 144 #[.pointer none, .string s] w fun e w' => e = .returned (.pointer none) ∧ w = w' := by
  go_enter Tryz.func144, Tryz.ntmps144
  go_wp2
  go_ret
  exact ⟨rfl, rfl⟩
set_option maxHeartbeats 400000 in
theorem fail_nil (x : Int) (w : World) :
    Calls Tryz.prog 143 #[.pointer none, .int .i64 x] w fun e w' => e = .returned (.pointer none) ∧ w = w' := by
  go_enter Tryz.func143, Tryz.ntmps143
  go_wp2
  go_ret
  exact ⟨rfl, rfl⟩

set_option maxHeartbeats 400000 in
theorem put_err (s : ByteArray) (w : World) (b : Nat) (st : WSt) (h : WrAt w b st) (he : st.err ≠ 0) :
    Calls Tryz.prog 144 #[.pointer (some ⟨b, 0, none⟩), .string s] w fun e w' => e = .returned (.pointer (some ⟨b, 0, none⟩)) ∧ w = w' := by
  obtain ⟨last, hl, hc⟩ := h
  have c2 := cell_of hl 2
  have hb : (st.err == 0) = false := by simpa using he
  clear hl hc
  simp at c2
  go_enter Tryz.func144, Tryz.ntmps144
  go_wp2
  go_ret
  exact ⟨rfl, rfl⟩
set_option maxHeartbeats 400000 in
theorem fail_err (x : Int) (w : World) (b : Nat) (st : WSt) (h : WrAt w b st) (he : st.err ≠ 0) :
    Calls Tryz.prog 143 #[.pointer (some ⟨b, 0, none⟩), .int .i64 x] w fun e w' => e = .returned (.pointer (some ⟨b, 0, none⟩)) ∧ w = w' := by
  obtain ⟨last, hl, hc⟩ := h
  have c2 := cell_of hl 2
  have hb : (st.err == 0) = false := by simpa using he
  clear hl hc
  simp at c2
  go_enter Tryz.func143, Tryz.ntmps143
  go_wp2
  go_ret
  exact ⟨rfl, rfl⟩

set_option maxHeartbeats 400000 in
theorem put_ok (s : ByteArray) (w : World) (b : Nat) (ts : List ByteArray) (h : WrAt w b ⟨ts, 0⟩) (hs : s.size + total ts ≤ 9223372036854775807) :
    Calls Tryz.prog 144 #[.pointer (some ⟨b, 0, none⟩), .string s] w fun e w' => e = .returned (.pointer (some ⟨b, 0, none⟩)) ∧ WrAt w' b ⟨s :: ts, 0⟩ ∧ w.grownBy w' (some b) := by
  have hlt := h.lt
  obtain ⟨last, hl, hc⟩ := h
  obtain ⟨p, rfl⟩ := hc.ptr
  have c0 := cell_of hl 0
  have c1 := cell_of hl 1
  have c2 := cell_of hl 2
  have f0 := free_of hl 0
  have f1 := free_of hl 1
  have f2 := free_of hl 2
  simp at c0 c1 c2
  have HL := Lib.hid hl
  have HC := Lib.hid hc
  clear hl hc
  go_enter Tryz.func144, Tryz.ntmps144
  go_wp2
  go_ret
  exact ⟨rfl, WrAt.pushed hlt HL.out HC.out⟩

set_option maxHeartbeats 400000 in
theorem fail_ok (x : Int) (w : World) (b : Nat) (ts : List ByteArray) (h : WrAt w b ⟨ts, 0⟩) :
    Calls Tryz.prog 143 #[.pointer (some ⟨b, 0, none⟩), .int .i64 x] w fun e w' => e = .returned (.pointer (some ⟨b, 0, none⟩)) ∧ WrAt w' b ⟨ts, x⟩ ∧ w.grownBy w' (some b) := by
  have hlt := h.lt
  obtain ⟨last, hl, hc⟩ := h
  have c2 := cell_of hl 2
  have f2 := free_of hl 2
  simp at c2
  have HL := Lib.hid hl
  have HC := Lib.hid hc
  clear hl hc
  go_enter Tryz.func143, Tryz.ntmps143
  go_wp2
  go_ret
  have hg : w.grownBy (w.setCell ⟨b, 2, none⟩ (.int .i64 x)) (some b) := grownBy_setCell (World.grownBy.refl _ _) _ _
  refine ⟨rfl, ⟨last, ?_, HC.out.kept hg ?_⟩, hg⟩
  · rw [heap_setCell HL.out 2 _]
    simp
  · intro r e v t hr
    cases e
    rw [HL.out] at hr
    simp at hr

/-- put, at every state -/
theorem put_any (s : ByteArray) (w : World) (b : Nat) (st : WSt) (h : WrAt w b st) (hs : s.size + total st.ts ≤ 9223372036854775807) :
    Calls Tryz.prog 144 #[.pointer (some ⟨b, 0, none⟩), .string s] w fun e w' => e = .returned (.pointer (some ⟨b, 0, none⟩)) ∧ WrAt w' b (st.put s) ∧ w.grownBy w' (some b) := by
  obtain ⟨ts, err⟩ := st
  by_cases he : err = 0
  · subst he
    exact put_ok s w b ts h hs
  · refine (put_err s w b ⟨ts, err⟩ h he).mono ?_
    rintro e w' ⟨rfl, rfl⟩
    exact ⟨rfl, by simpa [WSt.put, he] using h, World.grownBy.refl _ _⟩
theorem fail_any (x : Int) (w : World) (b : Nat) (st : WSt) (h : WrAt w b st) :
    Calls Tryz.prog 143 #[.pointer (some ⟨b, 0, none⟩), .int .i64 x] w fun e w' => e = .returned (.pointer (some ⟨b, 0, none⟩)) ∧ WrAt w' b (st.fail x) ∧ w.grownBy w' (some b) := by
  obtain ⟨ts, err⟩ := st
  by_cases he : err = 0
  · subst he
    exact fail_ok x w b ts h
  · refine (fail_err x w b ⟨ts, err⟩ h he).mono ?_
    rintro e w' ⟨rfl, rfl⟩
    exact ⟨rfl, by simpa [WSt.fail, he] using h, World.grownBy.refl _ _⟩

theorem put_ws (s : ByteArray) (w : World) (p : Option Addr) (st : Option WSt) (h : WsAt w p st) (hs : WRoom st s.size) :
    Calls Tryz.prog 144 #[.pointer p, .string s] w fun e w' => e = .returned (.pointer p) ∧ WsAt w' p (st.map (·.put s)) ∧ w.grownBy w' (prow p) := by
  cases st with
  | none =>
    obtain rfl := h
    refine (put_nil s w).mono ?_
    rintro e w' ⟨rfl, rfl⟩
    exact ⟨rfl, rfl, World.grownBy.refl _ _⟩
  | some st =>
    obtain ⟨b, rfl, hw⟩ := h
    refine (put_any s w b st hw (hs st rfl)).mono ?_
    rintro e w' ⟨rfl, h1, h2⟩
    exact ⟨rfl, ⟨b, rfl, h1⟩, h2⟩
theorem fail_ws (x : Int) (w : World) (p : Option Addr) (st : Option WSt) (h : WsAt w p st) :
    Calls Tryz.prog 143 #[.pointer p, .int .i64 x] w fun e w' => e = .returned (.pointer p) ∧ WsAt w' p (st.map (·.fail x)) ∧ w.grownBy w' (prow p) := by
  cases st with
  | none =>
    obtain rfl := h
    refine (fail_nil x w).mono ?_
    rintro e w' ⟨rfl, rfl⟩
    exact ⟨rfl, rfl, World.grownBy.refl _ _⟩
  | some st =>
    obtain ⟨b, rfl, hw⟩ := h
    refine (fail_any x w b st hw).mono ?_
    rintro e w' ⟨rfl, h1, h2⟩
    exact ⟨rfl, ⟨b, rfl, h1⟩, h2⟩

end Go.Proofs.YtbhoeiopckmfhaaGreatDoor

namespace Go.Proofs.YtbhoeiopckmfhaaGreatDoor
open Go.RowKit

set_option maxHeartbeats 400000 in
theorem wnum_any (n : Nat) (hn : n ≤ 18446744073709551615) (k : Int) (w : World) (p : Option Addr) (st : Option WSt) (h : WsAt w p st) (hs : WRoom st 8) :
    Calls Tryz.prog 97 #[.pointer p, .int .u64 n, .int .i64 k] w fun e w' => e = .returned (.pointer p) ∧ WsAt w' p (st.map (·.num n k)) ∧ w.grownBy w' (prow p) := by
  have H := Lib.hid h
  have HR := Lib.hid hs
  clear h hs
  by_cases hk : 1 ≤ k ∧ k ≤ 8
  · obtain ⟨k, rfl⟩ := Int.eq_ofNat_of_zero_le (show 0 ≤ k by omega)
    have hk1 : 1 ≤ k := by omega
    have hk2 : k ≤ 8 := by omega
    have hb : (decide (1 ≤ (k : Int)) && decide ((k : Int) ≤ 8)) = true := by simp; omega
    clear hk
    by_cases hf : n < 256 ^ k
    · have e : (fun st : WSt => st.num n k) = (fun st => st.put (str (be n k))) := by funext st; simp [WSt.num, hf, hk2]; intro; omega
      rw [e]
      clear e
      have hf' := (num_fits_int n k hk1).2 hf
      clear hf
      go_enter Tryz.func97, Tryz.ntmps97
      go_wp2_with fail
      refine (numMayBe_any k _).mono ?_
      rintro e w' ⟨rfl, rfl⟩
      go_wp2_with fail
      refine (number_any n k hn hk2 _).mono ?_
      rintro e w1 ⟨rfl, hg⟩
      have HB := Lib.hid (grownBy_below hg)
      clear hg
      go_wp2_with fail
      refine (put_ws (str (be n k)) _ p st (H.out.grown HB.out) ?_).mono ?_
      · intro x hx
        have := HR.out x hx
        rw [str_size, be_length]
        omega
      rintro e w2 ⟨rfl, h1, h2⟩
      have H1 := Lib.hid h1
      have H2 := Lib.hid h2
      clear h1 h2
      go_wp2
      go_ret
      exact ⟨rfl, H1.out, grownBy_trans (grownBy_any HB.out _) H2.out⟩
    · have e : (fun st : WSt => st.num n k) = (fun st => st.fail 10) := by funext st; simp [WSt.num, hf]
      rw [e]
      clear e
      have hf' : 255 < (n : Int) / 2 ^ (8 * (k - 1)) := by
        have := num_fits_int n k hk1
        omega
      clear hf
      go_enter Tryz.func97, Tryz.ntmps97
      go_wp2_with fail
      refine (numMayBe_any k _).mono ?_
      rintro e w' ⟨rfl, rfl⟩
      go_wp2_with fail
      refine (fail_ws 10 _ p st H.out).mono ?_
      rintro e w' ⟨rfl, h1, h2⟩
      have H1 := Lib.hid h1
      have H2 := Lib.hid h2
      clear h1 h2
      go_wp2
      go_ret
      exact ⟨rfl, H1.out, H2.out⟩
  · have e : (fun st : WSt => st.num n k) = (fun st => st.fail 10) := by
      funext st
      unfold WSt.num
      rw [if_neg (by intro h; exact hk ⟨h.1, h.2.1⟩)]
    rw [e]
    clear e
    have hb : (decide (1 ≤ (k : Int)) && decide ((k : Int) ≤ 8)) = false := by
      rw [Bool.and_eq_false_iff, decide_eq_false_iff_not, decide_eq_false_iff_not]
      omega
    clear hk
    go_enter Tryz.func97, Tryz.ntmps97
    go_wp2_with fail
    refine (numMayBe_any k _).mono ?_
    rintro e w' ⟨rfl, rfl⟩
    go_wp2_with fail
    refine (fail_ws 10 _ p st H.out).mono ?_
    rintro e w' ⟨rfl, h1, h2⟩
    have H1 := Lib.hid h1
    have H2 := Lib.hid h2
    clear h1 h2
    go_wp2
    go_ret
    exact ⟨rfl, H1.out, H2.out⟩
end Go.Proofs.YtbhoeiopckmfhaaGreatDoor

namespace Go.Proofs.YtbhoeiopckmfhaaGreatDoor
open Go.RowKit

set_option maxHeartbeats 400000 in
theorem wfixed_any (s : ByteArray) (k : Int) (w : World) (p : Option Addr) (st : Option WSt) (h : WsAt w p st) (hs : WRoom st s.size) :
    Calls Tryz.prog 98 #[.pointer p, .string s, .int .i64 k] w fun e w' => e = .returned (.pointer p) ∧ WsAt w' p (st.map (·.fixed s k)) ∧ w.grownBy w' (prow p) := by
  have H := Lib.hid h
  clear h
  by_cases hk : (s.size : Int) = k
  · have e : (fun st : WSt => st.fixed s k) = (fun st => st.put s) := by funext st; simp [WSt.fixed, hk]
    rw [e]
    clear e
    subst hk
    go_enter Tryz.func98, Tryz.ntmps98
    go_wp2_with fail
    refine (put_ws s _ p st H.out hs).mono ?_
    rintro e w' ⟨rfl, h1, h2⟩
    have H1 := Lib.hid h1
    have H2 := Lib.hid h2
    clear h1 h2
    go_wp2
    go_ret
    exact ⟨rfl, H1.out, H2.out⟩
  · have e : (fun st : WSt => st.fixed s k) = (fun st => st.fail 10) := by funext st; simp [WSt.fixed, hk]
    rw [e]
    clear e
    go_enter Tryz.func98, Tryz.ntmps98
    go_wp2_with fail
    refine (fail_ws 10 _ p st H.out).mono ?_
    rintro e w' ⟨rfl, h1, h2⟩
    have H1 := Lib.hid h1
    have H2 := Lib.hid h2
    clear h1 h2
    go_wp2
    go_ret
    exact ⟨rfl, H1.out, H2.out⟩

end Go.Proofs.YtbhoeiopckmfhaaGreatDoor

namespace Go.Proofs.YtbhoeiopckmfhaaGreatDoor
open Go.RowKit

/-- block b is a Reader with this rest and this error -/
def RdAt (w : World) (b : Nat) (rest : ByteArray) (err : Int) : Prop := w.heap[b]? = some (.cells #[.string rest, .int .i64 err] 215 (0, 0))
theorem RdAt.lt {w : World} {b : Nat} {s : ByteArray} {e : Int} (h : RdAt w b s e) : b < w.heap.size := (Array.getElem?_eq_some_iff.1 h).1
theorem RdAt.kept {w w' : World} {row : Option Nat} {b : Nat} {s : ByteArray} {e : Int} (h : RdAt w b s e) (hg : w.grownBy w' row) (hb : row ≠ some b) : RdAt w' b s e := by
  unfold RdAt
  rw [hg.block b h.lt (fun e => hb e.symm)]
  exact h




end Go.Proofs.YtbhoeiopckmfhaaGreatDoor
