/- Plain functions for package sha: SHA-256 on numbers. Nothing here names the program. · The walk of a Writer's Fixed. · The walk of a Reader's End. · A Reader's calls at its block, at every state. · Texts out of rows of bytes. No walk. · Bits of numbers of kind i64 that are not below 0. No walk. · The walks of bits' functions. · The walks of bits' loops. · Arrays of sixteen bytes: sliced, loaded, held against one another. No walk. · The walks of bits.First and of the document's Bit. · What BitsOrder and BitsBands need of plain bits. No walk. · Worlds that turn but in some blocks; the blocks from a number on that are not the caller's own. No walk; no type of the program. · Below, to whatever depth. · Numbers in pieces of 16 bits; the roots of primes. Plain; no walk. · The walk of a Reader's Text. · The walk of a Writer's Text. · A region with no defer statement, in a round: it goes as outside. No program text. · The walk of the document's own Num (plumbobref02). · Slices of integers in memory. No walk. -/
import Derived.WalkKit
import Derived.Test.YtioahjdojgcfdaaDoorRows
import Derived.Test.YtioahjdojgcfdaaDoorHeaderChainsB1
import Derived.Laws.IdiomStrings
import Derived.Laws.Bits64b
import Derived.WalkSpells
import Derived.WalkLawsBesides
import Derived.Deep.LoopGhost
import Derived.Deep.DeepCutAuto
import Derived.Deep.RegionWith
import Derived.ChangeKeysEq
import Derived.Laws.BitsAllLaws
import Derived.Deep.MidRow
import Derived.OwnWalkIn
import Derived.RangeFuncCalls
import Derived.OrdersIn
namespace Go.Proofs.YtioahjdojgcfdaaDoor

/-! words -/
/-- a word turned to the right -/
def rotr (n x : Nat) : Nat := x / 2 ^ n + x % 2 ^ n * 2 ^ (32 - n)
def sig0 (x : Nat) : Nat := (rotr 7 x ^^^ rotr 18 x) ^^^ x / 2 ^ 3
def sig1 (x : Nat) : Nat := (rotr 17 x ^^^ rotr 19 x) ^^^ x / 2 ^ 10
def Sig0 (x : Nat) : Nat := (rotr 2 x ^^^ rotr 13 x) ^^^ rotr 22 x
def Sig1 (x : Nat) : Nat := (rotr 6 x ^^^ rotr 11 x) ^^^ rotr 25 x
def chs (e f g : Nat) : Nat := (e &&& f) ^^^ ((4294967295 - e) &&& g)
def maj (a b c : Nat) : Nat := ((a &&& b) ^^^ (a &&& c)) ^^^ (b &&& c)

theorem rotr_lt {n x : Nat} (hn : n ≤ 32) (hx : x < 4294967296) : rotr n x < 4294967296 := by
  unfold rotr
  have h1 : x / 2 ^ n < 2 ^ (32 - n) := by
    rw [Nat.div_lt_iff_lt_mul (Nat.two_pow_pos n), ← Nat.pow_add, Nat.sub_add_cancel hn]; exact hx
  have h2 : x % 2 ^ n + 1 ≤ 2 ^ n := Nat.mod_lt _ (Nat.two_pow_pos n)
  have h3 : (x % 2 ^ n + 1) * 2 ^ (32 - n) ≤ 2 ^ n * 2 ^ (32 - n) := Nat.mul_le_mul_right _ h2
  rw [← Nat.pow_add, Nat.add_sub_cancel' hn, Nat.add_mul] at h3
  have h4 : (2 : Nat) ^ 32 = 4294967296 := by decide
  omega
theorem xor_lt {a b : Nat} (ha : a < 4294967296) (hb : b < 4294967296) : a ^^^ b < 4294967296 := Nat.xor_lt_two_pow (n := 32) ha hb
theorem and_lt {a b : Nat} (ha : a < 4294967296) : a &&& b < 4294967296 := Nat.lt_of_le_of_lt Nat.and_le_left ha
theorem div_lt32 {a n : Nat} (ha : a < 4294967296) : a / 2 ^ n < 4294967296 := Nat.lt_of_le_of_lt (Nat.div_le_self _ _) ha
theorem sig0_lt {x : Nat} (hx : x < 4294967296) : sig0 x < 4294967296 := xor_lt (xor_lt (rotr_lt (by decide) hx) (rotr_lt (by decide) hx)) (div_lt32 hx)
theorem sig1_lt {x : Nat} (hx : x < 4294967296) : sig1 x < 4294967296 := xor_lt (xor_lt (rotr_lt (by decide) hx) (rotr_lt (by decide) hx)) (div_lt32 hx)
theorem Sig0_lt {x : Nat} (hx : x < 4294967296) : Sig0 x < 4294967296 := xor_lt (xor_lt (rotr_lt (by decide) hx) (rotr_lt (by decide) hx)) (rotr_lt (by decide) hx)
theorem Sig1_lt {x : Nat} (hx : x < 4294967296) : Sig1 x < 4294967296 := xor_lt (xor_lt (rotr_lt (by decide) hx) (rotr_lt (by decide) hx)) (rotr_lt (by decide) hx)
theorem chs_lt {e f g : Nat} (he : e < 4294967296) : chs e f g < 4294967296 := xor_lt (and_lt he) (and_lt (by omega))
theorem maj_lt {a b c : Nat} (ha : a < 4294967296) (hb : b < 4294967296) : maj a b c < 4294967296 := xor_lt (xor_lt (and_lt ha) (and_lt ha)) (and_lt hb)

/-! the state: eight words -/
structure St where
  a : Nat
  b : Nat
  c : Nat
  d : Nat
  e : Nat
  f : Nat
  g : Nat
  h : Nat
def St.ok (s : St) : Prop := s.a < 4294967296 ∧ s.b < 4294967296 ∧ s.c < 4294967296 ∧ s.d < 4294967296 ∧ s.e < 4294967296 ∧ s.f < 4294967296 ∧ s.g < 4294967296 ∧ s.h < 4294967296
def St.list (s : St) : List Nat := [s.a, s.b, s.c, s.d, s.e, s.f, s.g, s.h]
def start : St := ⟨1779033703, 3144134277, 1013904242, 2773480762, 1359893119, 2600822924, 528734635, 1541459225⟩
def rootsL : List Nat := [1116352408, 1899447441, 3049323471, 3921009573, 961987163, 1508970993, 2453635748, 2870763221, 3624381080, 310598401, 607225278, 1426881987, 1925078388, 2162078206, 2614888103, 3248222580, 3835390401, 4022224774, 264347078, 604807628, 770255983, 1249150122, 1555081692, 1996064986, 2554220882, 2821834349, 2952996808, 3210313671, 3336571891, 3584528711, 113926993, 338241895, 666307205, 773529912, 1294757372, 1396182291, 1695183700, 1986661051, 2177026350, 2456956037, 2730485921, 2820302411, 3259730800, 3345764771, 3516065817, 3600352804, 4094571909, 275423344, 430227734, 506948616, 659060556, 883997877, 958139571, 1322822218, 1537002063, 1747873779, 1955562222, 2024104815, 2227730452, 2361852424, 2428436474, 2756734187, 3204031479, 3329325298]

def t1 (s : St) (k w : Nat) : Nat := (s.h + Sig1 s.e + chs s.e s.f s.g + k + w) % 4294967296
def t2 (s : St) : Nat := (Sig0 s.a + maj s.a s.b s.c) % 4294967296
def St.step (s : St) (k w : Nat) : St := ⟨(t1 s k w + t2 s) % 4294967296, s.a, s.b, s.c, (s.d + t1 s k w) % 4294967296, s.e, s.f, s.g⟩
theorem step_ok {s : St} (h : s.ok) (k w : Nat) : (s.step k w).ok := by
  obtain ⟨ha, hb, hc, hd, he, hf, hg, hh⟩ := h
  exact ⟨Nat.mod_lt _ (by decide), ha, hb, hc, Nat.mod_lt _ (by decide), he, hf, hg⟩
def St.add (s v : St) : St := ⟨(s.a + v.a) % 4294967296, (s.b + v.b) % 4294967296, (s.c + v.c) % 4294967296, (s.d + v.d) % 4294967296, (s.e + v.e) % 4294967296, (s.f + v.f) % 4294967296, (s.g + v.g) % 4294967296, (s.h + v.h) % 4294967296⟩
theorem add_ok (s v : St) : (s.add v).ok := ⟨Nat.mod_lt _ (by decide), Nat.mod_lt _ (by decide), Nat.mod_lt _ (by decide), Nat.mod_lt _ (by decide), Nat.mod_lt _ (by decide), Nat.mod_lt _ (by decide), Nat.mod_lt _ (by decide), Nat.mod_lt _ (by decide)⟩

/-! the schedule -/
/-- four bytes as a word -/
def word (b : List UInt8) (i : Nat) : Nat := (((b.getD (4 * i) 0).toNat * 256 + (b.getD (4 * i + 1) 0).toNat) * 256 + (b.getD (4 * i + 2) 0).toNat) * 256 + (b.getD (4 * i + 3) 0).toNat
theorem word_lt (b : List UInt8) (i : Nat) : word b i < 4294967296 := by
  unfold word
  have h0 := (b.getD (4 * i) 0).toNat_lt
  have h1 := (b.getD (4 * i + 1) 0).toNat_lt
  have h2 := (b.getD (4 * i + 2) 0).toNat_lt
  have h3 := (b.getD (4 * i + 3) 0).toNat_lt
  omega
/-- the first n words of a block -/
def words (b : List UInt8) (n : Nat) : List Nat := (List.range n).map (word b)
/-- the word behind some -/
def nextW (l : List Nat) : Nat := (l.getD (l.length - 16) 0 + sig0 (l.getD (l.length - 15) 0) + l.getD (l.length - 7) 0 + sig1 (l.getD (l.length - 2) 0)) % 4294967296
def more : Nat → List Nat → List Nat
  | 0, l => l
  | n + 1, l => more n (l ++ [nextW l])
def sched (b : List UInt8) : List Nat := more 48 (words b 16)
theorem more_length (n : Nat) (l : List Nat) : (more n l).length = l.length + n := by
  induction n generalizing l with
  | zero => rfl
  | succ n ih => rw [more, ih]; simp; omega
theorem more_succ (n : Nat) (l : List Nat) : more (n + 1) l = more n l ++ [nextW (more n l)] := by
  induction n generalizing l with
  | zero => rfl
  | succ n ih => rw [more, ih (l ++ [nextW l])]; rfl
theorem sched_length (b : List UInt8) : (sched b).length = 64 := by simp [sched, more_length, words]
theorem nextW_lt (l : List Nat) : nextW l < 4294967296 := Nat.mod_lt _ (by decide)
theorem more_lt (n : Nat) (l : List Nat) (h : ∀ x ∈ l, x < 4294967296) : ∀ x ∈ more n l, x < 4294967296 := by
  induction n generalizing l with
  | zero => exact h
  | succ n ih =>
    refine ih _ fun x hx => ?_
    rcases List.mem_append.1 hx with hx | hx
    · exact h x hx
    · rw [List.mem_singleton.1 hx]; exact nextW_lt l
theorem words_lt (b : List UInt8) (n : Nat) : ∀ x ∈ words b n, x < 4294967296 := by
  intro x hx
  obtain ⟨i, _, rfl⟩ := List.mem_map.1 hx
  exact word_lt b i
theorem sched_lt (b : List UInt8) : ∀ x ∈ sched b, x < 4294967296 := more_lt _ _ (words_lt b 16)
theorem getD_lt {l : List Nat} {N : Nat} (h : ∀ x ∈ l, x < N) (hN : 0 < N) (i : Nat) : l.getD i 0 < N := by
  rw [List.getD_eq_getElem?_getD]
  cases e : l[i]? with
  | none => exact hN
  | some x => exact h x (List.mem_of_getElem? e)

/-! a block taken in -/
def roundsTo (s : St) (ks ws : List Nat) : Nat → St
  | 0 => s
  | i + 1 => (roundsTo s ks ws i).step (ks.getD i 0) (ws.getD i 0)
theorem roundsTo_ok {s : St} (h : s.ok) (ks ws : List Nat) (i : Nat) : (roundsTo s ks ws i).ok := by
  induction i with
  | zero => exact h
  | succ i ih => exact step_ok ih _ _
/-- the state behind a block -/
def St.mix (s : St) (b : List UInt8) : St := s.add (roundsTo s rootsL (sched b) 64)
theorem mix_ok (s : St) (b : List UInt8) : (s.mix b).ok := add_ok _ _
theorem start_ok : start.ok := by unfold St.ok start; decide

/-- the state behind n blocks of some bytes -/
def blocksTo (s : St) (l : List UInt8) : Nat → St
  | 0 => s
  | n + 1 => (blocksTo s l n).mix ((l.drop (64 * n)).take 64)

/-- bytes with their padding -/
def pad (l : List UInt8) : List UInt8 := l ++ 128 :: List.replicate ((119 - l.length % 64) % 64) 0 ++ be (8 * l.length) 8
theorem pad_length (l : List UInt8) : (pad l).length = 64 * ((l.length + 72) / 64) := by
  simp [pad, be_length]
  omega
def St.bytes (s : St) : List UInt8 := s.list.flatMap fun x => be x 4
/-- the digest -/
def shaL (l : List UInt8) : List UInt8 := (blocksTo start (pad l) ((l.length + 72) / 64)).bytes
theorem shaL_length (l : List UInt8) : (shaL l).length = 32 := by
  simp [shaL, St.bytes, St.list, be_length]
theorem abc_is : shaL [97, 98, 99] = [186, 120, 22, 191, 143, 1, 207, 234, 65, 65, 64, 222, 93, 174, 34, 35, 176, 3, 97, 163, 150, 23, 122, 156, 180, 16, 255, 97, 242, 0, 21, 173] := by kernel_rfl
end Go.Proofs.YtioahjdojgcfdaaDoor

namespace Go.Proofs.YtioahjdojgcfdaaDoor
open Go.RowKit

set_option maxHeartbeats 400000 in
theorem wfixed_any (s : ByteArray) (k : Int) (w : World) (p : Option Addr) (st : Option WSt) (h : WsAt w p st) (hs : WRoom st s.size) :
    Calls Tryd.prog 60 #[.pointer p, .string s, .int .i64 k] w fun e w' => e = .returned (.pointer p) ∧ WsAt w' p (st.map (·.fixed s k)) ∧ w.grownBy w' (prow p) := by
  have H := Lib.hid h
  clear h
  by_cases hk : (s.size : Int) = k
  · have e : (fun st : WSt => st.fixed s k) = (fun st => st.put s) := by funext st; simp [WSt.fixed, hk]
    rw [e]
    clear e
    subst hk
    go_enter Tryd.func60, Tryd.ntmps60
    go_wp2_with fail
    refine (put_ws s _ p st H.out hs).mono ?_
    rintro e w' ⟨rfl, h1, h2⟩
    have H1 := Lib.hid h1
    have H2 := Lib.hid h2
    clear h1 h2
    go_wp2
    go_ret
    exact ⟨rfl, H1.out, H2.out⟩
  · have e : (fun st : WSt => st.fixed s k) = (fun st => st.fail 10) := by funext st; simp [WSt.fixed, hk]
    rw [e]
    clear e
    go_enter Tryd.func60, Tryd.ntmps60
    go_wp2_with fail
    refine (fail_ws 10 _ p st H.out).mono ?_
    rintro e w' ⟨rfl, h1, h2⟩
    have H1 := Lib.hid h1
    have H2 := Lib.hid h2
    clear h1 h2
    go_wp2
    go_ret
    exact ⟨rfl, H1.out, H2.out⟩

end Go.Proofs.YtioahjdojgcfdaaDoor

namespace Go.Proofs.YtioahjdojgcfdaaDoor
open Go.RowKit

set_option maxHeartbeats 400000 in
theorem end_any (w : World) (p : Option Addr) (st : Option RSt) (h : RsAt w p st) :
    Calls Tryd.prog 67 #[.pointer p] w fun e w' => e = .returned (.int .i64 ((st.map fun s => s.done).getD 1)) ∧ w = w' := by
  cases st with
  | none =>
    obtain rfl := h
    go_enter Tryd.func67, Tryd.ntmps67
    go_wp2
    go_ret
    exact ⟨rfl, rfl⟩
  | some st =>
    obtain ⟨b, rfl, hb⟩ := h
    have c0 := cell_of hb 0
    have c1 := cell_of hb 1
    simp at c0 c1
    clear hb
    go_enter Tryd.func67, Tryd.ntmps67
    go_wp2
    · go_ret
      have h1 : st.err = 0 := by assumption
      have h2 : (!st.rest.toList.isEmpty) = true := by assumption
      refine ⟨?_, rfl⟩
      rw [emp] at h2
      simp at h2
      simp [RSt.done, h1, h2]
    · go_ret
      have h1 : st.err = 0 := by assumption
      have h2 : (!st.rest.toList.isEmpty) = false := by assumption
      refine ⟨?_, rfl⟩
      rw [emp] at h2
      simp at h2
      simp [RSt.done, h1, h2]
    · go_ret
      have h1 : ¬ st.err = 0 := by assumption
      refine ⟨?_, rfl⟩
      simp [RSt.done, h1]

/-- what a call leaves of a Reader -/
def RsLeft (st : Option RSt) (f : RSt → RSt) (w : World) (p : Option Addr) (w' : World) : Prop := RsAt w' p (st.map f) ∧ w.grownBy w' (prow p)

end Go.Proofs.YtioahjdojgcfdaaDoor

namespace Go.Proofs.YtioahjdojgcfdaaDoor
open Go.RowKit

theorem rd_numS {w : World} {b : Nat} {s : RSt} (k : Int) (h : RdAt w b s.rest s.err) (hm : s.rest.size ≤ maxLen) :
    Calls Tryd.prog 64 #[.pointer (some ⟨b, 0, none⟩), .int .i64 k] w fun e w' => e = .returned (.int .u64 (s.num k).1) ∧ RdAt w' b (s.num k).2.rest (s.num k).2.err ∧ w.grownBy w' (some b) := by
  refine (rnum_any k w (some ⟨b, 0, none⟩) (some s) ⟨b, rfl, h⟩ (by rintro x ⟨⟩; exact hm)).mono ?_
  rintro e w' ⟨rfl, hw, g⟩
  obtain ⟨b', e', hw⟩ := hw
  cases e'
  exact ⟨rfl, hw, g⟩
theorem rd_fixedS {w : World} {b : Nat} {s : RSt} (k : Int) (h : RdAt w b s.rest s.err) (hm : s.rest.size ≤ maxLen) :
    Calls Tryd.prog 65 #[.pointer (some ⟨b, 0, none⟩), .int .i64 k] w fun e w' => e = .returned (.string (s.fixed k).1) ∧ RdAt w' b (s.fixed k).2.rest (s.fixed k).2.err ∧ w.grownBy w' (some b) := by
  refine (rfixed_any k w (some ⟨b, 0, none⟩) (some s) ⟨b, rfl, h⟩ (by rintro x ⟨⟩; exact hm)).mono ?_
  rintro e w' ⟨rfl, hw, g⟩
  obtain ⟨b', e', hw⟩ := hw
  cases e'
  exact ⟨rfl, hw, g⟩
theorem rd_endS {w : World} {b : Nat} {s : RSt} (h : RdAt w b s.rest s.err) :
    Calls Tryd.prog 67 #[.pointer (some ⟨b, 0, none⟩)] w fun e w' => e = .returned (.int .i64 s.done) ∧ w = w' :=
  end_any w (some ⟨b, 0, none⟩) (some s) ⟨b, rfl, h⟩
end Go.Proofs.YtioahjdojgcfdaaDoor

namespace Go.Proofs.YtioahjdojgcfdaaDoor
open Go.RowKit

def bytesV (l : List UInt8) : List Value := l.map fun c => .int .u8 c.toNat
theorem infoB : (Tryd.prog.info? 5).map (fun i => (i.zero, i.size, i.bytes)) = some (some (.int .u8 0), 1, 1) := by kernel_rfl
theorem made_bytes (n : Nat) : (madeCells #[Value.int .u8 0] n).toList = bytesV (List.replicate n 0) := by
  apply List.ext_getElem?
  intro i
  simp [madeCells, bytesV, List.getElem?_replicate]
  by_cases h : i < n <;> simp [h, Nat.mod_one]
/-- 'string(b)', b a row of the call's own that holds bytes -/
theorem own_str {wr : World} {B g k cap : Nat} {l : List UInt8} (h : wr.ownsRow B 5 1 (.slice (some ⟨g, 0, none⟩) k cap) k (bytesV l)) :
    (convert 57 9 (.slice (some ⟨g, 0, none⟩) k cap)).run Tryd.prog wr = .ok (.string (str l)) wr := by
  have hl : l.length = k := by simpa [bytesV] using h.1
  subst hl
  refine run_convert_bytes_back wr 57 9 5 _ cap l Tryd.underlying57 Tryd.underlying5 Tryd.underlying9 fun j hj => ?_
  rw [show Addr.add ⟨g, 0, none⟩ j = (⟨g, j, none⟩ : Addr) from by simp [Addr.add]; omega, h.cellAt j (by simpa using hj)]
  simp [bytesV, List.getElem?_eq_getElem hj]
/-- 'string(b[:])', b a block of bytes -/
theorem blk_str {w : World} {g : Nat} {l : List UInt8} {t : TypeId} (h : w.heap[g]? = some (.cells (bytesV l).toArray t (0, 0))) (cap : Nat) :
    (convert 57 9 (.slice (some ⟨g, 0, none⟩) l.length cap)).run Tryd.prog w = .ok (.string (str l)) w := by
  refine run_convert_bytes_back w 57 9 5 _ cap l Tryd.underlying57 Tryd.underlying5 Tryd.underlying9 fun j hj => ?_
  rw [show Addr.add ⟨g, 0, none⟩ j = (⟨g, j, none⟩ : Addr) from by simp [Addr.add]; omega, cell_of h, List.getElem?_toArray]
  simp [bytesV, List.getElem?_eq_getElem hj]
end Go.Proofs.YtioahjdojgcfdaaDoor

namespace Go.Proofs.YtioahjdojgcfdaaDoor
open Go.RowKit

theorem wrap_i64_nat (n : Nat) (h : n < 9223372036854775808) : IntKind.i64.wrap (n : Int) = (n : Int) := by
  simp only [IntKind.wrap, IntKind.bits, IntKind.signed, IntKind.min, IntKind.max]; simp; omega
theorem bits_and_i64_nat (a b : Nat) (ha : a < 9223372036854775808) (hb : b < 9223372036854775808) :
    bits .and .i64 (a : Int) (b : Int) = ((a &&& b : Nat) : Int) := by
  have hx : a &&& b < 2 ^ 63 := Nat.and_lt_two_pow _ (by omega)
  have h1 : (BitVec.ofInt 64 (a : Int)).toNat = a := by
    rw [BitVec.ofInt_natCast, BitVec.toNat_ofNat]; exact Nat.mod_eq_of_lt (by omega)
  have h2 : (BitVec.ofInt 64 (b : Int)).toNat = b := by
    rw [BitVec.ofInt_natCast, BitVec.toNat_ofNat]; exact Nat.mod_eq_of_lt (by omega)
  show IntKind.i64.wrap ((BitVec.ofInt 64 (a : Int) &&& BitVec.ofInt 64 (b : Int)).toNat : Int) = _
  rw [BitVec.toNat_and, h1, h2, wrap_i64_nat _ (by omega)]
theorem bits_or_i64_nat (a b : Nat) (ha : a < 9223372036854775808) (hb : b < 9223372036854775808) :
    bits .or .i64 (a : Int) (b : Int) = ((a ||| b : Nat) : Int) := by
  have hx : a ||| b < 2 ^ 63 := Nat.or_lt_two_pow (by omega) (by omega)
  have h1 : (BitVec.ofInt 64 (a : Int)).toNat = a := by
    rw [BitVec.ofInt_natCast, BitVec.toNat_ofNat]; exact Nat.mod_eq_of_lt (by omega)
  have h2 : (BitVec.ofInt 64 (b : Int)).toNat = b := by
    rw [BitVec.ofInt_natCast, BitVec.toNat_ofNat]; exact Nat.mod_eq_of_lt (by omega)
  show IntKind.i64.wrap ((BitVec.ofInt 64 (a : Int) ||| BitVec.ofInt 64 (b : Int)).toNat : Int) = _
  rw [BitVec.toNat_or, h1, h2, wrap_i64_nat _ (by omega)]
theorem bits_xor_i64_nat (a b : Nat) (ha : a < 9223372036854775808) (hb : b < 9223372036854775808) :
    bits .xor .i64 (a : Int) (b : Int) = ((a ^^^ b : Nat) : Int) := by
  have hx : a ^^^ b < 2 ^ 63 := Nat.xor_lt_two_pow (by omega) (by omega)
  have h1 : (BitVec.ofInt 64 (a : Int)).toNat = a := by
    rw [BitVec.ofInt_natCast, BitVec.toNat_ofNat]; exact Nat.mod_eq_of_lt (by omega)
  have h2 : (BitVec.ofInt 64 (b : Int)).toNat = b := by
    rw [BitVec.ofInt_natCast, BitVec.toNat_ofNat]; exact Nat.mod_eq_of_lt (by omega)
  show IntKind.i64.wrap ((BitVec.ofInt 64 (a : Int) ^^^ BitVec.ofInt 64 (b : Int)).toNat : Int) = _
  rw [BitVec.toNat_xor, h1, h2, wrap_i64_nat _ (by omega)]
theorem and_one_i64 (m : Nat) (h : m < 9223372036854775808) : bits .and .i64 (m : Int) 1 = ((m % 2 : Nat) : Int) := by
  have := bits_and_i64_nat m 1 h (by decide)
  rw [Nat.and_one_is_mod] at this
  exact this
end Go.Proofs.YtioahjdojgcfdaaDoor

namespace Go.Proofs.YtioahjdojgcfdaaDoor
open Go.RowKit

/-- the bit of a text -/
def bitS (s : ByteArray) (i : Nat) : Nat := ((s.data.toList[i / 8]?).getD 0).toNat / 2 ^ (7 - i % 8) % 2
theorem bitS_le (s : ByteArray) (i : Nat) : bitS s i ≤ 1 := by unfold bitS; omega
theorem bitS_out (s : ByteArray) (i : Nat) (h : s.size ≤ i / 8) : bitS s i = 0 := by
  unfold bitS
  rw [List.getElem?_eq_none (by simpa using h)]
  simp
theorem bitS_in (s : ByteArray) (i q r : Nat) (hq : i / 8 = q) (hr : i % 8 = r) (h : q < s.size) : bitS s i = s[q].toNat / 2 ^ (7 - r) % 2 := by
  unfold bitS
  subst hq hr
  rw [List.getElem?_eq_getElem (by simpa using h)]
  rfl

theorem shr_bit (c k : Nat) (hc : c < 256) : (c : Int) / 2 ^ k = ((c / 2 ^ k : Nat) : Int) := by
  rw [Int.natCast_ediv]; simp
end Go.Proofs.YtioahjdojgcfdaaDoor

namespace Go.Proofs.YtioahjdojgcfdaaDoor
open Go.RowKit

/-- the number of the first bits -/
def bandN (s : ByteArray) : Nat → Nat
  | 0 => 0
  | k + 1 => 2 * bandN s k + bitS s k
theorem bandN_lt (s : ByteArray) : ∀ k, bandN s k < 2 ^ k
  | 0 => by simp [bandN]
  | k + 1 => by
    have := bandN_lt s k
    have := bitS_le s k
    rw [bandN, Nat.pow_succ]
    omega
theorem or_bit (n b : Nat) (hb : b ≤ 1) : 2 * n ||| b = 2 * n + b := by
  have := Nat.two_pow_add_eq_or_of_lt (i := 1) (b := b) (by omega) n
  simp at this
  rw [← this]
theorem band_cap (k : Nat) (h : k ≤ 16) : 2 ^ k ≤ 65536 := Nat.le_trans (Nat.pow_le_pow_right (by decide) h) (by decide)
/-- are the first bits alike? -/
def belowB (a b : ByteArray) (n : Nat) : Bool := (List.range n).all fun i => bitS a i == bitS b i
theorem belowB_succ (a b : ByteArray) (n : Nat) : belowB a b (n + 1) = (belowB a b n && (bitS a n == bitS b n)) := by
  simp [belowB, List.range_succ, List.all_append]
theorem belowB_iff (a b : ByteArray) (n : Nat) : belowB a b n = true ↔ ∀ i, i < n → bitS a i = bitS b i := by
  simp [belowB]

end Go.Proofs.YtioahjdojgcfdaaDoor

namespace Go.Proofs.YtioahjdojgcfdaaDoor
open Go.RowKit

theorem sixteen_size (l : List UInt8) (h : l.length = 16) : (bytesV l).toArray.size = 16 := by simp [bytesV, h]
theorem eqItems_bytes (d : Nat) (la lb : List UInt8) (w : World) : ∀ is : List Nat, (∀ i ∈ is, i < la.length ∧ i < lb.length) →
    (Op.eqItems (d + 1) 5 1 (bytesV la).toArray (bytesV lb).toArray is).run Tryd.prog w = .ok (is.all fun i => la.getD i 0 == lb.getD i 0) w
  | [], _ => by simp [Op.eqItems]
  | i :: is, h => by
    have hp : Tryd.prog.plainKey 5 = true := by kernel_rfl
    obtain ⟨ha, hb⟩ := h i (by simp)
    have xa : (bytesV la).toArray[i * 1]? = some (.int .u8 (la.getD i 0).toNat) := by
      simp [bytesV, List.getElem?_eq_getElem ha, List.getD_eq_getElem?_getD]
    have xb : (bytesV lb).toArray[i * 1]? = some (.int .u8 (lb.getD i 0).toNat) := by
      simp [bytesV, List.getElem?_eq_getElem hb, List.getD_eq_getElem?_getD]
    have ih := eqItems_bytes d la lb w is (fun j hj => h j (by simp [hj]))
    have e : (((la.getD i 0).toNat : Int) == ((lb.getD i 0).toNat : Int)) = (la.getD i 0 == lb.getD i 0) := by
      rw [Bool.eq_iff_iff, beq_iff_eq, beq_iff_eq, ← UInt8.toNat_inj]
      omega
    simp only [Op.eqItems, Sem.run_bind, run_part_plain w hp xa, run_part_plain w hp xb, Result.andThen_ok, run_equalIn_int w d _ _ _ _ _ Tryd.underlying5, e, List.all_cons]
    cases la.getD i 0 == lb.getD i 0
    · simp
    · simpa using ih
end Go.Proofs.YtioahjdojgcfdaaDoor

namespace Go.Proofs.YtioahjdojgcfdaaDoor
open Go.RowKit

/-- the bit of a row of bytes -/
def bitL (l : List UInt8) (i : Nat) : Nat := ((l[i / 8]?).getD 0).toNat / 2 ^ (7 - i % 8) % 2
theorem bitS_str (l : List UInt8) (i : Nat) : bitS (str l) i = bitL l i := rfl
theorem bit_test (x j : Nat) : x / 2 ^ j % 2 = (x.testBit j).toNat := (Nat.toNat_testBit x j).symm
theorem bitL_set (l : List UInt8) (q r c b : Nat) (hq : q < l.length) (hr : r < 8) (hc : ((l[q]?).getD 0).toNat = c) (hb : b ≤ 1) (h0 : bitL l (8 * q + r) = 0) (i : Nat) :
    bitL (l.set q (UInt8.ofNat (c ||| b * 2 ^ (7 - r)))) i = if i = 8 * q + r then b else bitL l i := by
  have hp : 2 ^ (7 - r) ≤ 128 := Nat.le_trans (Nat.pow_le_pow_right (by decide) (by omega : 7 - r ≤ 7)) (by decide)
  have hbp : b * 2 ^ (7 - r) < 256 := by
    have : b * 2 ^ (7 - r) ≤ 1 * 2 ^ (7 - r) := Nat.mul_le_mul_right _ hb
    omega
  have hc8 : c < 256 := by rw [← hc]; exact UInt8.toNat_lt _
  have hor : c ||| b * 2 ^ (7 - r) < 256 := Nat.or_lt_two_pow (n := 8) hc8 hbp
  unfold bitL at h0 ⊢
  rw [show (8 * q + r) / 8 = q from by omega, show (8 * q + r) % 8 = r from by omega, hc, bit_test] at h0
  by_cases hiq : i / 8 = q
  · rw [hiq, List.getElem?_set_self hq, Option.getD_some, UInt8.toNat_ofNat_of_lt' hor, hc, bit_test, bit_test, Nat.testBit_or]
    have hbt : (b * 2 ^ (7 - r)).testBit (7 - i % 8) = (decide (7 - r = 7 - i % 8) && decide (b = 1)) := by
      rcases (by omega : b = 0 ∨ b = 1) with rfl | rfl
      · simp
      · rw [Nat.one_mul, Nat.testBit_two_pow]; simp
    rw [hbt]
    by_cases hir : i % 8 = r
    · rw [if_pos (by omega), hir]
      have : c.testBit (7 - r) = false := by
        cases h : c.testBit (7 - r) with
        | false => rfl
        | true => rw [h] at h0; simp at h0
      rw [this]
      rcases (by omega : b = 0 ∨ b = 1) with rfl | rfl <;> simp
    · rw [if_neg (by omega)]
      have : decide (7 - r = 7 - i % 8) = false := by simp; omega
      rw [this]
      simp
  · rw [List.getElem?_set_ne (fun e => hiq e.symm), if_neg (by omega)]

theorem bytesV_set (l : List UInt8) (q : Nat) (u : UInt8) : (bytesV l).toArray.setIfInBounds q (.int .u8 u.toNat) = (bytesV (l.set q u)).toArray := by
  apply Array.toList_inj.1
  simp [bytesV, List.map_set]

def noughts16 : ByteArray := str (List.replicate 16 0)
end Go.Proofs.YtioahjdojgcfdaaDoor

namespace Go.Proofs.YtioahjdojgcfdaaDoor
open Go.RowKit

theorem bandN_same (a b : ByteArray) : ∀ d, (∀ i, i < d → bitS a i = bitS b i) → bandN a d = bandN b d
  | 0, _ => rfl
  | d + 1, h => by rw [bandN, bandN, bandN_same a b d (fun i hi => h i (by omega)), h d (by omega)]
theorem bandN_less (a b : ByteArray) (k : Nat) (h : ∀ i, i < k → bitS a i = bitS b i) (h0 : bitS a k = 0) (h1 : bitS b k = 1) : ∀ d, k < d → bandN a d < bandN b d
  | 0, hd => by omega
  | d + 1, hd => by
    rw [bandN, bandN]
    by_cases e : k = d
    · subst e
      rw [bandN_same a b k h, h0, h1]; omega
    · have := bandN_less a b k h h0 h1 d (by omega)
      have := bitS_le a d
      omega
theorem bandN_bit (a : ByteArray) : ∀ d i, i < d → bandN a d / 2 ^ (d - 1 - i) % 2 = bitS a i
  | 0, i, h => by omega
  | d + 1, i, h => by
    have hb := bitS_le a d
    rw [bandN]
    by_cases e : i = d
    · subst e
      rw [show i + 1 - 1 - i = 0 from by omega, Nat.pow_zero, Nat.div_one]; omega
    · have ih := bandN_bit a d i (by omega)
      rw [show d + 1 - 1 - i = (d - 1 - i) + 1 from by omega, Nat.pow_succ, Nat.mul_comm (2 ^ _) 2, ← Nat.div_div_eq_div_mul, show (2 * bandN a d + bitS a d) / 2 = bandN a d from by omega]
      exact ih
/-- a text with the bits of a band's number has that band -/
theorem band_of_bits (s : ByteArray) (b d : Nat) (h : ∀ i, i < d → bitS s i = b / 2 ^ (d - 1 - i) % 2) : ∀ k, k ≤ d → bandN s k = b / 2 ^ (d - k) % 2 ^ k
  | 0, _ => by rw [Nat.pow_zero, Nat.mod_one]; rfl
  | k + 1, hk => by
    rw [bandN, band_of_bits s b d h k (by omega), h k (by omega), show d - 1 - k = d - (k + 1) from by omega, show d - k = (d - (k + 1)) + 1 from by omega, Nat.pow_succ 2 (d - (k + 1)), ← Nat.div_div_eq_div_mul]
    generalize b / 2 ^ (d - (k + 1)) = x
    rw [Nat.pow_succ, Nat.mul_comm (2 ^ k) 2, Nat.mod_mul]
    omega
/-- bytes of the same bits are the same -/
theorem top_bits (a b r : Nat) (ha : a < 256) (hb : b < 256) : ∀ m, m ≤ 8 → (∀ j, j < m → a / 2 ^ (7 - j) % 2 = b / 2 ^ (7 - j) % 2) → a / 2 ^ (8 - m) = b / 2 ^ (8 - m)
  | 0, _, _ => by rw [show 2 ^ (8 - 0) = 256 from rfl]; omega
  | m + 1, hm, h => by
    have ih := top_bits a b r ha hb m (by omega) (fun j hj => h j (by omega))
    have h1 := h m (by omega)
    rw [show 8 - m = (7 - m) + 1 from by omega, Nat.pow_succ, ← Nat.div_div_eq_div_mul, ← Nat.div_div_eq_div_mul] at ih
    rw [show 8 - (m + 1) = 7 - m from by omega]
    omega
theorem bitL_byte (l : List UInt8) (q j : Nat) (h : j < 8) : bitL l (8 * q + j) = ((l[q]?).getD 0).toNat / 2 ^ (7 - j) % 2 := by
  unfold bitL
  rw [show (8 * q + j) / 8 = q from by omega, show (8 * q + j) % 8 = j from by omega]
theorem byte_same (l m : List UInt8) (q : Nat) (h : ∀ i, i < 8 → bitL l (8 * q + i) = bitL m (8 * q + i)) : (l[q]?).getD 0 = (m[q]?).getD 0 := by
  have := top_bits _ _ 0 (UInt8.toNat_lt ((l[q]?).getD 0)) (UInt8.toNat_lt ((m[q]?).getD 0)) 8 (Nat.le_refl _) (fun j hj => by
    have := h j hj
    rwa [bitL_byte l q j hj, bitL_byte m q j hj] at this)
  rw [show 2 ^ (8 - 8) = 1 from rfl, Nat.div_one, Nat.div_one] at this
  exact UInt8.toNat_inj.1 this
theorem bits_all (l m : List UInt8) (n : Nat) (hl : l.length = n) (hm : m.length = n) (h : ∀ i, i < 8 * n → bitL l i = bitL m i) : l = m := by
  apply List.ext_getElem (by omega)
  intro q h1 h2
  have := byte_same l m q (fun i hi => h _ (by omega))
  rwa [List.getElem?_eq_getElem h1, List.getElem?_eq_getElem h2] at this
/-- the first bit that is not the same tells the order -/
theorem less_cons (x y : UInt8) (l m : List UInt8) : Op.bytesLess (x :: l) (y :: m) = (decide (x < y) || (x == y && Op.bytesLess l m)) := rfl
theorem less_first : ∀ (q : Nat) (l m : List UInt8), l.length = m.length → q < l.length → (∀ i, i < q → (l[i]?).getD 0 = (m[i]?).getD 0) → (l[q]?).getD 0 < (m[q]?).getD 0 → Op.bytesLess l m = true ∧ Op.bytesLess m l = false
  | _, [], _, _, h, _, _ => by simp at h
  | _, _ :: _, [], h, _, _, _ => by simp at h
  | 0, x :: l, y :: m, _, _, _, h => by
    have hxy : x < y := by simpa using h
    have h2 := UInt8.lt_iff_toNat_lt.1 hxy
    rw [less_cons, less_cons]
    constructor
    · simp [hxy]
    · have h3 : ¬ y < x := by rw [UInt8.lt_iff_toNat_lt]; omega
      have h4 : (y == x) = false := by
        rw [beq_eq_false_iff_ne]
        rintro rfl
        omega
      simp [h3, h4]
  | q + 1, x :: l, y :: m, hl, hq, hs, h => by
    have h0 := hs 0 (by omega)
    have hxy : x = y := by simpa using h0
    subst hxy
    obtain ⟨i1, i2⟩ := less_first q l m (by simpa using hl) (by simpa using hq) (fun i hi => by simpa using hs (i + 1) (by omega)) (by simpa using h)
    have h3 : ¬ x < x := by rw [UInt8.lt_iff_toNat_lt]; omega
    rw [less_cons, less_cons, i1, i2]
    simp [h3]
theorem less_of_bit (l m : List UInt8) (k : Nat) (hl : l.length = m.length) (hk : k < 8 * l.length) (hs : ∀ i, i < k → bitL l i = bitL m i) (h0 : bitL l k = 0) (h1 : bitL m k = 1) : Op.bytesLess l m = true ∧ Op.bytesLess m l = false := by
  obtain ⟨q, hq⟩ : ∃ q, k / 8 = q := ⟨_, rfl⟩
  obtain ⟨r, hr⟩ : ∃ r, k % 8 = r := ⟨_, rfl⟩
  have hkq : k = 8 * q + r := by omega
  subst hkq
  refine less_first q l m hl (by omega) (fun i hi => byte_same l m i (fun j hj => hs _ (by omega))) ?_
  rw [bitL_byte l q r (by omega)] at h0
  rw [bitL_byte m q r (by omega)] at h1
  have ht := top_bits _ _ 0 (UInt8.toNat_lt ((l[q]?).getD 0)) (UInt8.toNat_lt ((m[q]?).getD 0)) r (by omega) (fun j hj => by
    have := hs (8 * q + j) (by omega)
    rwa [bitL_byte l q j (by omega), bitL_byte m q j (by omega)] at this)
  rw [UInt8.lt_iff_toNat_lt]
  generalize ((l[q]?).getD 0).toNat = a at h0 ht ⊢
  generalize ((m[q]?).getD 0).toNat = b at h1 ht ⊢
  rw [show 8 - r = (7 - r) + 1 from by omega, Nat.pow_succ, ← Nat.div_div_eq_div_mul, ← Nat.div_div_eq_div_mul] at ht
  rcases Nat.lt_or_ge a b with h | h
  · exact h
  · have := Nat.div_le_div_right (c := 2 ^ (7 - r)) h
    omega
/-- what the two texts' order says of the first bit that is not the same -/
theorem order_bit (p q : List UInt8) (k : Nat) (hp : p.length = 16) (hq : q.length = 16) (hk : k < 128) (hs : ∀ i, i < k → bitL p i = bitL q i) (hne : bitL p k ≠ bitL q k) (h : Op.bytesLess q p = false) : bitL p k = 0 ∧ bitL q k = 1 := by
  have h1 : bitL p k ≤ 1 := bitS_le (str p) k
  have h2 : bitL q k ≤ 1 := bitS_le (str q) k
  rcases (by omega : (bitL p k = 0 ∧ bitL q k = 1) ∨ (bitL q k = 0 ∧ bitL p k = 1)) with h3 | ⟨h3, h4⟩
  · exact h3
  · rw [(less_of_bit q p k (by omega) (by omega) (fun i hi => (hs i hi).symm) h3 h4).1] at h
    cases h
theorem less_irr : ∀ l : List UInt8, Op.bytesLess l l = false
  | [] => rfl
  | x :: l => by
    have h3 : ¬ x < x := by rw [UInt8.lt_iff_toNat_lt]; omega
    rw [less_cons, less_irr l]
    simp [h3]
theorem less_asym : ∀ l m : List UInt8, Op.bytesLess l m = true → Op.bytesLess m l = false
  | [], [], h => by simp [Op.bytesLess] at h
  | [], _ :: _, _ => rfl
  | _ :: _, [], h => by simp [Op.bytesLess] at h
  | x :: l, y :: m, h => by
    rw [less_cons] at h ⊢
    simp only [Bool.or_eq_true, Bool.and_eq_true, decide_eq_true_eq, beq_iff_eq] at h
    rcases h with h | ⟨rfl, h⟩
    · have h1 := UInt8.lt_iff_toNat_lt.1 h
      have h3 : ¬ y < x := by rw [UInt8.lt_iff_toNat_lt]; omega
      have h4 : (y == x) = false := by
        rw [beq_eq_false_iff_ne]
        rintro rfl
        omega
      simp [h3, h4]
    · have h3 : ¬ x < x := by rw [UInt8.lt_iff_toNat_lt]; omega
      rw [less_asym l m h]
      simp [h3]
theorem str_list (l : List UInt8) : (str l).toList = l := by rw [ByteArray.toList_eq]; rfl
end Go.Proofs.YtioahjdojgcfdaaDoor

namespace Go.Proofs.YtioahjdojgcfdaaDoor
open Go.RowKit

/-- w' is as w was, but for the blocks of S, and new ones -/
structure Turn (S : Nat → Prop) (w w' : World) : Prop where
  os : w'.os = w.os
  tape : w'.tape = w.tape
  output : w'.output = w.output
  size : w.heap.size ≤ w'.heap.size
  block : ∀ i, i < w.heap.size → ¬ S i → w'.heap[i]? = w.heap[i]?
/-- the blocks that were made between two worlds -/
def madeIn (w w' : World) (i : Nat) : Prop := w.heap.size ≤ i ∧ i < w'.heap.size
theorem Turn.refl (S : Nat → Prop) (w : World) : Turn S w w := ⟨rfl, rfl, rfl, Nat.le_refl _, fun _ _ _ => rfl⟩
theorem Turn.mono {S T : Nat → Prop} {w w' : World} (h : Turn S w w') (hs : ∀ i, i < w.heap.size → S i → T i) : Turn T w w' := ⟨h.os, h.tape, h.output, h.size, fun i hi hn => h.block i hi (fun q => hn (hs i hi q))⟩
theorem Turn.trans {S T : Nat → Prop} {a b c : World} (h : Turn S a b) (k : Turn T b c) (hs : ∀ i, i < a.heap.size → T i → S i) : Turn S a c :=
  ⟨k.os.trans h.os, k.tape.trans h.tape, k.output.trans h.output, Nat.le_trans h.size k.size, fun i hi hn => (k.block i (Nat.lt_of_lt_of_le hi h.size) (fun q => hn (hs i hi q))).trans (h.block i hi hn)⟩
theorem Turn.then {S : Nat → Prop} {a b c : World} (h : Turn S a b) (k : Turn S b c) : Turn S a c := h.trans k (fun _ _ q => q)
theorem Turn.grown {S : Nat → Prop} {a b c : World} (h : Turn S a b) (k : b.grownBy c none) : Turn S a c := h.then ⟨k.os, k.tape, k.output, k.size, fun i hi _ => k.block i hi (by simp)⟩
theorem Turn.of_grown {S : Nat → Prop} {a b : World} (k : a.grownBy b none) : Turn S a b := (Turn.refl S a).grown k
theorem Turn.row {S : Nat → Prop} {a b c : World} (h : Turn S a b) {row : Option Nat} (k : b.grownBy c row) (hs : ∀ i, i < a.heap.size → row = some i → S i) : Turn S a c :=
  h.trans (T := fun i => row = some i) ⟨k.os, k.tape, k.output, k.size, fun i hi hn => k.block i hi (fun e => hn e.symm)⟩ hs
theorem Turn.drew {S : Nat → Prop} {a b : World} (h : Turn S a b) : Turn S a b.drew := ⟨h.os, h.tape, h.output, h.size, h.block⟩
theorem Turn.alloc {S : Nat → Prop} {a b : World} (h : Turn S a b) (o : Obj) : Turn S a (b.alloc o) := h.grown (World.grownBy_alloc b o none)
theorem Turn.setCell {S : Nat → Prop} {a b : World} (h : Turn S a b) {k : Nat} (hk : k < a.heap.size → S k) (o : Nat) (u : Value) : Turn S a (b.setCell ⟨k, o, none⟩ u) :=
  ⟨h.os, h.tape, h.output, by rw [size_setCell]; exact h.size, fun i hi hn => by rw [heap_setCell_ne _ _ _ _ (fun e => hn (by rw [← e]; exact hk (by omega)))]; exact h.block i hi hn⟩
theorem Turn.setCells {S : Nat → Prop} {a b : World} (h : Turn S a b) {k : Nat} (hk : k < a.heap.size → S k) (o : Nat) (vs : List Value) : Turn S a (b.setCells k o vs) :=
  ⟨by rw [← h.os]; induction vs generalizing o b with | nil => rfl | cons v r ih => exact ih (b := b.setCell _ v) (h.setCell hk o v) _,
   by rw [← h.tape]; induction vs generalizing o b with | nil => rfl | cons v r ih => exact ih (b := b.setCell _ v) (h.setCell hk o v) _,
   by rw [← h.output]; induction vs generalizing o b with | nil => rfl | cons v r ih => exact ih (b := b.setCell _ v) (h.setCell hk o v) _,
   by rw [size_setCells]; exact h.size, fun i hi hn => by rw [heap_setCells_ne (fun e => hn (by rw [← e]; exact hk (by omega)))]; exact h.block i hi hn⟩
theorem Turn.below {S : Nat → Prop} {B : Nat} {w0 w w' : World} (h : Below B w0 w) (k : Turn S w w') (hB : B ≤ w.heap.size) (hs : ∀ i, i < B → ¬ S i) : Below B w0 w' :=
  ⟨k.os.trans h.os, k.tape.trans h.tape, k.output.trans h.output, Nat.le_trans h.size k.size, fun i hi => (k.block i (Nat.lt_of_lt_of_le hi hB) (hs i hi)).trans (h.block i hi)⟩
theorem Turn.cell {S : Nat → Prop} {w w' : World} (h : Turn S w w') {b : Nat} (hb : b < w.heap.size) (hn : ¬ S b) (o : Nat) : w'.cell? ⟨b, o, none⟩ = w.cell? ⟨b, o, none⟩ := World.cell?_of_block (h.block b hb hn)
theorem Turn.heap {S : Nat → Prop} {w w' : World} (h : Turn S w w') {b : Nat} {o : Obj} (hb : w.heap[b]? = some o) (hn : ¬ S b) : w'.heap[b]? = some o := by
  rw [h.block b (Array.getElem?_eq_some_iff.1 hb).1 hn]; exact hb

/-- an own row lies on, where its block does not turn -/
theorem own_turn {S : Nat → Prop} {w w' : World} {B : Nat} {e : TypeId} {size n : Nat} {v : Value} {xs : List Value} (h : w.ownsRow B e size v n xs) (k : Turn S w w') (hs : ∀ g, v.ownBlock = some g → ¬ S g) : w'.ownsRow B e size v n xs := by
  refine ⟨h.1, ?_⟩
  rcases h.2 with h' | ⟨g, cap, cur, rfl, b, hg, r⟩
  · exact .inl h'
  · exact .inr ⟨g, cap, cur, rfl, b, k.heap hg (hs g rfl), r⟩

/-- the blocks from n0 on that are none of X -/
def rest (n0 : Nat) (X : List Nat) (i : Nat) : Prop := n0 ≤ i ∧ i ∉ X
theorem Turn.inX {n0 : Nat} {X : List Nat} {w w' : World} {x : Nat} {o : Obj} (k : Turn (rest n0 X) w w') (hx : x ∈ X) (h : w.heap[x]? = some o) : w'.heap[x]? = some o := k.heap h (fun q => q.2 hx)
theorem Turn.bel {n0 : Nat} {X : List Nat} {w0 w w' : World} (k : Turn (rest n0 X) w w') (h : Below n0 w0 w) (hn : n0 ≤ w.heap.size) : Below n0 w0 w' := k.below h hn (fun i hi q => by have := q.1; omega)
theorem rest_mono {n0 : Nat} {X Y : List Nat} (h : ∀ x ∈ X, x ∈ Y) {w w' : World} (k : Turn (rest n0 Y) w w') : Turn (rest n0 X) w w' := k.mono (fun _ _ q => ⟨q.1, fun hx => q.2 (h _ hx)⟩)

end Go.Proofs.YtioahjdojgcfdaaDoor

namespace Go.Proofs.YtioahjdojgcfdaaDoor
open Go.RowKit

/-- a depth, from 0 to 128 -/
def capD (z : Int) : Nat := (min (max z 0) 128).toNat
theorem capD_le (z : Int) : capD z ≤ 128 := by unfold capD; omega
end Go.Proofs.YtioahjdojgcfdaaDoor

namespace Go.Proofs.YtioahjdojgcfdaaDoor

/-- the value of pieces, the lowest first -/
def V : List Nat → Nat
  | [] => 0
  | d :: l => d + 65536 * V l
def Dig (l : List Nat) : Prop := ∀ i, l.getD i 0 < 65536

theorem V_take_drop (l : List Nat) (n : Nat) : V l = V (l.take n) + 65536 ^ n * V (l.drop n) := by
  induction n generalizing l with
  | zero => simp [V]
  | succ n ih =>
    cases l with
    | nil => simp [V]
    | cons d l =>
      simp only [List.take_succ_cons, List.drop_succ_cons, V]
      rw [ih l, Nat.pow_succ, Nat.mul_add]
      rw [Nat.add_assoc, Nat.mul_comm (65536 ^ n) 65536, Nat.mul_assoc]
theorem V_set (l : List Nat) (i x : Nat) (h : i < l.length) : V (l.set i x) + l.getD i 0 * 65536 ^ i = V l + x * 65536 ^ i := by
  induction l generalizing i with
  | nil => cases h
  | cons d l ih =>
    cases i with
    | zero => simp [V]; omega
    | succ i =>
      have := ih i (by simpa using h)
      simp only [List.set_cons_succ, V, List.getD_cons_succ, Nat.pow_succ]
      have e1 : l.getD i 0 * (65536 ^ i * 65536) = 65536 * (l.getD i 0 * 65536 ^ i) := by rw [← Nat.mul_assoc, Nat.mul_comm]
      have e2 : x * (65536 ^ i * 65536) = 65536 * (x * 65536 ^ i) := by rw [← Nat.mul_assoc, Nat.mul_comm]
      rw [e1, e2]
      omega
theorem V_zero (n : Nat) : V (List.replicate n 0) = 0 := by
  induction n with
  | zero => rfl
  | succ n ih => rw [List.replicate_succ, V, ih]
theorem Dig.cons {d : Nat} {l : List Nat} (h : Dig (d :: l)) : d < 65536 ∧ Dig l := ⟨h 0, fun i => by simpa using h (i + 1)⟩
theorem V_lt (l : List Nat) (h : Dig l) : V l < 65536 ^ l.length := by
  induction l with
  | nil => simp [V]
  | cons d l ih =>
    obtain ⟨h1, h2⟩ := h.cons
    have := ih h2
    rw [V, List.length_cons, Nat.pow_succ]
    omega
theorem V_succ (l : List Nat) (k : Nat) (h : k < l.length) : V (l.take (k + 1)) = V (l.take k) + l.getD k 0 * 65536 ^ k := by
  induction k generalizing l with
  | zero =>
    cases l with
    | nil => cases h
    | cons d l => simp [V]
  | succ k ih =>
    cases l with
    | nil => cases h
    | cons d l =>
      have := ih l (by simpa using h)
      simp only [List.take_succ_cons, V, List.getD_cons_succ] at this ⊢
      rw [this, Nat.pow_succ, Nat.mul_add, ← Nat.mul_assoc (l.getD k 0), Nat.mul_comm (l.getD k 0 * 65536 ^ k) 65536]
      omega
theorem V_drop (l : List Nat) (k : Nat) (h : k < l.length) : V (l.drop k) = l.getD k 0 + 65536 * V (l.drop (k + 1)) := by
  rw [List.drop_eq_getElem_cons h, V, List.getD_eq_getElem?_getD, List.getElem?_eq_getElem h]
  rfl

/-! the product, as it is reckoned -/
def tIn (ai i : Nat) (b : List Nat) (out : List Nat) : Nat → List Nat × Nat
  | 0 => (out, 0)
  | k + 1 => ((tIn ai i b out k).1.set (i + k) (((tIn ai i b out k).1.getD (i + k) 0 + ai * b.getD k 0 + (tIn ai i b out k).2) % 65536), ((tIn ai i b out k).1.getD (i + k) 0 + ai * b.getD k 0 + (tIn ai i b out k).2) / 65536)
def tOut (a b : List Nat) : Nat → List Nat
  | 0 => List.replicate (a.length + b.length) 0
  | i + 1 => (tIn (a.getD i 0) i b (tOut a b i) b.length).1.set (i + b.length) ((tIn (a.getD i 0) i b (tOut a b i) b.length).1.getD (i + b.length) 0 + (tIn (a.getD i 0) i b (tOut a b i) b.length).2)
def timesL (a b : List Nat) : List Nat := tOut a b a.length

theorem getD_set (l : List Nat) (i j x : Nat) : (l.set i x).getD j 0 = if i = j ∧ j < l.length then x else l.getD j 0 := by
  rw [List.getD_eq_getElem?_getD, List.getElem?_set, List.getD_eq_getElem?_getD]
  by_cases h : i = j
  · subst h
    by_cases h2 : i < l.length
    · simp [h2]
    · simp [h2]
  · simp [h]
theorem dig_set {l : List Nat} (h : Dig l) (i x : Nat) (hx : x < 65536) : Dig (l.set i x) := fun j => by
  rw [getD_set]
  split
  · exact hx
  · exact h j
theorem t_lt {o ai b c : Nat} (ho : o < 65536) (ha : ai < 65536) (hb : b < 65536) (hc : c < 65536) : o + ai * b + c < 4294967296 := by
  have : ai * b ≤ 65535 * 65535 := Nat.mul_le_mul (by omega) (by omega)
  omega

structure InOk (ai i : Nat) (b out : List Nat) (k : Nat) : Prop where
  len : (tIn ai i b out k).1.length = out.length
  dig : Dig (tIn ai i b out k).1
  carry : (tIn ai i b out k).2 < 65536
  far : ∀ j, i + b.length ≤ j → (tIn ai i b out k).1.getD j 0 = out.getD j 0
  val : V (tIn ai i b out k).1 + (tIn ai i b out k).2 * 65536 ^ (i + k) = V out + ai * V (b.take k) * 65536 ^ i
theorem inOk {ai i : Nat} {b out : List Nat} (ha : ai < 65536) (hb : Dig b) (ho : Dig out) (hl : i + b.length < out.length) (k : Nat) (hk : k ≤ b.length) : InOk ai i b out k := by
  induction k with
  | zero => exact ⟨rfl, ho, by simp [tIn], fun _ _ => rfl, by simp [tIn, V]⟩
  | succ k ih =>
    obtain ⟨h1, h2, h3, h4, h5⟩ := ih (by omega)
    have ht := t_lt (h2 (i + k)) ha (hb k) h3
    refine ⟨?_, ?_, ?_, ?_, ?_⟩
    · rw [tIn]; simp only; rw [List.length_set, h1]
    · rw [tIn]; exact dig_set h2 _ _ (Nat.mod_lt _ (by decide))
    · rw [tIn]; simp only; omega
    · intro j hj
      rw [tIn]
      simp only
      rw [getD_set, if_neg (by omega), h4 j hj]
    · rw [tIn]
      simp only
      have hs := V_set (tIn ai i b out k).1 (i + k) (((tIn ai i b out k).1.getD (i + k) 0 + ai * b.getD k 0 + (tIn ai i b out k).2) % 65536) (by omega)
      have hv := V_succ b k (by omega)
      rw [hv]
      generalize (tIn ai i b out k).1 = o at *
      generalize (tIn ai i b out k).2 = c at *
      generalize o.getD (i + k) 0 = d at *
      generalize b.getD k 0 = e at *
      generalize V (b.take k) = Vb at *
      obtain ⟨P, hP⟩ : ∃ P, P = 65536 ^ (i + k) := ⟨_, rfl⟩
      obtain ⟨R, hR⟩ : ∃ R, R = 65536 ^ i := ⟨_, rfl⟩
      have hPR : P = 65536 ^ k * R := by rw [hP, hR, ← Nat.pow_add, Nat.add_comm]
      rw [← Nat.add_assoc i k 1, Nat.pow_succ, ← hP, ← hR]
      rw [← hP, ← hR] at h5
      rw [← hP] at hs
      have e1 : (d + ai * e + c) / 65536 * (P * 65536) = (65536 * ((d + ai * e + c) / 65536)) * P := by rw [Nat.mul_comm P, ← Nat.mul_assoc, Nat.mul_comm _ 65536]
      rw [e1]
      have e2 : (d + ai * e + c) % 65536 * P + 65536 * ((d + ai * e + c) / 65536) * P = (d + ai * e + c) * P := by rw [← Nat.add_mul, Nat.mod_add_div]
      have e3 : (d + ai * e + c) * P = d * P + ai * e * P + c * P := by rw [Nat.add_mul, Nat.add_mul]
      have e4 : ai * (Vb + e * 65536 ^ k) * R = ai * Vb * R + ai * e * P := by
        rw [hPR, Nat.mul_add, Nat.add_mul, ← Nat.mul_assoc, ← Nat.mul_assoc]
      rw [e4]
      omega

structure OutOk (a b : List Nat) (i : Nat) : Prop where
  len : (tOut a b i).length = a.length + b.length
  dig : Dig (tOut a b i)
  far : ∀ j, i + b.length ≤ j → (tOut a b i).getD j 0 = 0
  val : V (tOut a b i) = V (a.take i) * V b
theorem outOk {a b : List Nat} (ha : Dig a) (hb : Dig b) (i : Nat) (hi : i ≤ a.length) : OutOk a b i := by
  induction i with
  | zero =>
    refine ⟨by simp [tOut], fun j => ?_, fun j _ => ?_, by simp [tOut, V, V_zero]⟩
    · rw [tOut, List.getD_eq_getElem?_getD, List.getElem?_replicate]; split <;> simp
    · rw [tOut, List.getD_eq_getElem?_getD, List.getElem?_replicate]; split <;> simp
  | succ i ih =>
    obtain ⟨h1, h2, h3, h4⟩ := ih (by omega)
    have hin := inOk (i := i) (ha i) hb h2 (by omega) b.length (Nat.le_refl _)
    obtain ⟨g1, g2, g3, g4, g5⟩ := hin
    have hz := g4 (i + b.length) (Nat.le_refl _)
    rw [h3 _ (Nat.le_refl _)] at hz
    refine ⟨?_, ?_, ?_, ?_⟩
    · rw [tOut, List.length_set, g1, h1]
    · rw [tOut]; exact dig_set g2 _ _ (by rw [hz]; omega)
    · intro j hj
      rw [tOut, getD_set, if_neg (by omega), g4 j (by omega), h3 j (by omega)]
    · rw [tOut]
      have hs := V_set (tIn (a.getD i 0) i b (tOut a b i) b.length).1 (i + b.length) ((tIn (a.getD i 0) i b (tOut a b i) b.length).1.getD (i + b.length) 0 + (tIn (a.getD i 0) i b (tOut a b i) b.length).2) (by omega)
      rw [hz] at hs ⊢
      rw [Nat.zero_add] at hs ⊢
      rw [Nat.zero_mul, Nat.add_zero] at hs
      rw [hs, g5, h4, List.take_of_length_le (Nat.le_refl _), V_succ a i (by omega), Nat.add_mul]
      rw [Nat.mul_assoc, Nat.mul_assoc, Nat.mul_comm (V b)]
theorem V_times {a b : List Nat} (ha : Dig a) (hb : Dig b) : V (timesL a b) = V a * V b := by
  have := (outOk ha hb a.length (Nat.le_refl _)).val
  rwa [List.take_of_length_le (Nat.le_refl _)] at this
theorem timesL_length {a b : List Nat} (ha : Dig a) (hb : Dig b) : (timesL a b).length = a.length + b.length := (outOk ha hb a.length (Nat.le_refl _)).len
theorem timesL_dig {a b : List Nat} (ha : Dig a) (hb : Dig b) : Dig (timesL a b) := (outOk ha hb a.length (Nat.le_refl _)).dig

/-! is a power above a number? -/
theorem above_split (m : List Nat) (hm : Dig m) (n p : Nat) (hn : n ≤ m.length) : (decide (p < V (m.drop n)) || (decide (V (m.drop n) = p) && decide (V (m.take n) ≠ 0))) = decide (p * 65536 ^ n < V m) := by
  have h1 := V_take_drop m n
  have hd : Dig (m.take n) := fun i => by
    rw [List.getD_eq_getElem?_getD, List.getElem?_take]
    split
    · rw [← List.getD_eq_getElem?_getD]; exact hm i
    · simp
  have h2 := V_lt _ hd
  rw [List.length_take, Nat.min_eq_left hn] at h2
  generalize V (m.drop n) = hi at *
  generalize V (m.take n) = lo at *
  generalize V m = v at *
  generalize 65536 ^ n = N at *
  rw [Bool.eq_iff_iff]
  simp only [Bool.or_eq_true, Bool.and_eq_true, decide_eq_true_eq]
  rw [h1]
  constructor
  · rintro (h | ⟨rfl, h⟩)
    · have : (p + 1) * N ≤ hi * N := Nat.mul_le_mul_right _ h
      rw [Nat.add_mul, Nat.mul_comm hi] at this
      omega
    · rw [Nat.mul_comm]; omega
  · intro h
    rcases Nat.lt_or_ge p hi with h' | h'
    · exact .inl h'
    · have : hi * N ≤ p * N := Nat.mul_le_mul_right _ h'
      rw [Nat.mul_comm hi] at this
      have e : N * hi = p * N ∨ N * hi < p * N := by omega
      rcases e with e | e
      · right
        have hN : 0 < N := by omega
        have : hi = p := by
          rw [Nat.mul_comm] at e
          exact Nat.eq_of_mul_eq_mul_right hN e
        exact ⟨this, by omega⟩
      · exfalso
        have : hi < p := by
          rcases Nat.lt_or_ge hi p with q | q
          · exact q
          · have := Nat.mul_le_mul_right N q
            rw [Nat.mul_comm hi] at this
            omega
        have : (hi + 1) * N ≤ p * N := Nat.mul_le_mul_right _ this
        rw [Nat.add_mul, Nat.mul_comm hi] at this
        omega
def pieces (y : Nat) : List Nat := [y % 65536, y / 65536 % 65536, y / 4294967296]
theorem pieces_dig (y : Nat) (h : y < 281474976710656) : Dig (pieces y) := fun i => by
  unfold pieces
  match i with
  | 0 => simp; omega
  | 1 => simp; omega
  | 2 => simp; omega
  | i + 3 => simp
theorem V_pieces (y : Nat) : V (pieces y) = y := by
  simp [pieces, V]
  omega
def aboveP (y p : Nat) (cube : Bool) : Bool := if cube then decide (p * 65536 ^ 6 < y * y * y) else decide (p * 65536 ^ 4 < y * y)

/-! the roots -/
def rootTo (p : Nat) (cube : Bool) : Nat → Nat
  | 0 => 0
  | j + 1 => if aboveP (rootTo p cube j + 68719476736 / 2 ^ j) p cube then rootTo p cube j else rootTo p cube j + 68719476736 / 2 ^ j
theorem rootTo_lt (p : Nat) (cube : Bool) (j : Nat) (hj : j ≤ 37) : rootTo p cube j + 137438953472 / 2 ^ j ≤ 137438953472 := by
  induction j with
  | zero => simp [rootTo]
  | succ j ih =>
    have := ih (by omega)
    have e : 137438953472 / 2 ^ j = 2 * (68719476736 / 2 ^ j) := by
      obtain ⟨r, hr⟩ : ∃ r, 36 = j + r := ⟨36 - j, by omega⟩
      have e1 : (68719476736 : Nat) = 2 ^ j * 2 ^ r := by rw [← Nat.pow_add, ← hr]
      have e2 : (137438953472 : Nat) = 2 ^ j * (2 * 2 ^ r) := by rw [Nat.mul_left_comm, ← e1]
      rw [e2, Nat.mul_div_cancel_left _ (Nat.two_pow_pos j), e1, Nat.mul_div_cancel_left _ (Nat.two_pow_pos j)]
    have e3 : 137438953472 / 2 ^ (j + 1) = 68719476736 / 2 ^ j := by
      rw [Nat.pow_succ, ← Nat.div_div_eq_div_mul, e]
      omega
    rw [rootTo, e3]
    split <;> omega
def rootR (p : Nat) (cube : Bool) : Nat := rootTo p cube 37 % 4294967296
/-- is there no divisor below d? -/
def noDiv (p d : Nat) : Bool := (List.range d).all fun k => k < 2 || p % k != 0
theorem noDiv_succ (p d : Nat) (h : 2 ≤ d) : noDiv p (d + 1) = (noDiv p d && (p % d != 0)) := by
  unfold noDiv
  have hd : decide (d < 2) = false := by rw [decide_eq_false_iff_not]; omega
  rw [List.range_succ, List.all_append]
  simp [hd]
def isP (p : Nat) : Bool := (List.range (p + 1)).all fun k => k < 2 || p < k * k || p % k != 0
theorem noDiv_isP (p d : Nat) (h1 : p < d * d) (h2 : ∀ k, k < d → 2 ≤ k → k * k ≤ p) : noDiv p d = isP p := by
  unfold noDiv isP
  rw [Bool.eq_iff_iff, List.all_eq_true, List.all_eq_true]
  simp only [List.mem_range, Bool.or_eq_true, decide_eq_true_eq, bne_iff_ne]
  constructor
  · intro h k hk
    rcases Nat.lt_or_ge k d with hd | hd
    · rcases h k hd with h | h
      · exact .inl (.inl h)
      · exact .inr h
    · left; right
      exact Nat.lt_of_lt_of_le h1 (Nat.mul_le_mul hd hd)
  · intro h k hk
    rcases Nat.lt_or_ge k 2 with h3 | h3
    · exact .inl h3
    · have hkk := h2 k hk h3
      have hkp : k ≤ p := Nat.le_trans (Nat.le_mul_self k) hkk
      rcases h k (by omega) with (h | h) | h
      · exact .inl h
      · omega
      · exact .inr h
/-- the primes below a number -/
def primesTo (q : Nat) : List Nat := (List.range q).filter fun p => 2 ≤ p && isP p
theorem primesTo_succ (q : Nat) (h : 2 ≤ q) : primesTo (q + 1) = primesTo q ++ if isP q then [q] else [] := by
  unfold primesTo
  rw [List.range_succ, List.filter_append]
  congr 1
  by_cases hp : isP q
  · simp [List.filter_cons, hp, h]
  · simp [List.filter_cons, hp]
theorem primesTo_mono (p q : Nat) (h : p ≤ q) : (primesTo p).length ≤ (primesTo q).length := by
  obtain ⟨r, rfl⟩ : ∃ r, q = p + r := ⟨q - p, by omega⟩
  unfold primesTo
  rw [List.range_add, List.filter_append, List.length_append]
  omega
theorem roots64 : (primesTo 312).map (rootR · true) = rootsL := by kernel_rfl
theorem roots8 : (primesTo 20).map (rootR · false) = start.list := by kernel_rfl
theorem primes311 : (primesTo 311).length = 63 := by kernel_rfl
theorem primes19 : (primesTo 19).length = 7 := by kernel_rfl
end Go.Proofs.YtioahjdojgcfdaaDoor

namespace Go.Proofs.YtioahjdojgcfdaaDoor
open Go.RowKit

set_option maxHeartbeats 400000 in
theorem rtext_any (w : World) (p : Option Addr) (st : Option RSt) (h : RsAt w p st) (hm : ∀ s, st = some s → s.rest.size ≤ maxLen) :
    Calls Tryd.prog 66 #[.pointer p] w fun e w' => e = .returned (.string ((st.map fun s => s.text.1).getD ByteArray.empty)) ∧ RsAt w' p (st.map fun s => s.text.2) ∧ w.grownBy w' (prow p) := by
  have H := Lib.hid h
  have HM := Lib.hid hm
  clear h hm
  obtain ⟨n, hn⟩ : ∃ n, n = (st.map fun s => (s.num 2).1).getD 0 := ⟨_, rfl⟩
  have hn2 : n < 65536 := by
    subst hn
    cases st with
    | none => simp
    | some s =>
      have h1 := val_lt (s.fixed (2 : Nat)).1.data.toList
      have h2 := fixed_size s 2
      have h3 : (s.fixed (2 : Nat)).1.data.toList.length ≤ 2 := by simpa using h2
      have h4 : val (s.fixed (2 : Nat)).1.data.toList < 256 ^ 2 := Nat.lt_of_lt_of_le h1 (Nat.pow_le_pow_right (by omega) h3)
      simpa [RSt.num] using h4
  have HN := Lib.hid hn
  clear hn
  by_cases hl : 4096 < n
  · go_enter Tryd.func66, Tryd.ntmps66
    go_wp2_with fail
    refine (rnum_any 2 _ p st H.out HM.out).mono ?_
    rintro e w1 ⟨rfl, h1, h2⟩
    rw [← HN.out]
    have H1 := Lib.hid h1
    have H2 := Lib.hid h2
    clear h1 h2
    go_wp2_with fail
    refine (rfail_any 4 _ p _ H1.out).mono ?_
    rintro e w2 ⟨rfl, h3, h4⟩
    have H3 := Lib.hid h3
    have H4 := Lib.hid h4
    clear h3 h4
    go_wp2
    go_ret
    have h3 := H3.out
    have hN := HN.out
    refine ⟨?_, ?_, grownBy_trans H2.out H4.out⟩
    · cases st with
      | none => rfl
      | some s =>
        simp at hN
        simp [RSt.text, ← hN, hl]
        rfl
    · cases st with
      | none => exact h3
      | some s =>
        simp at hN
        simpa [RSt.text, ← hN, hl] using h3
  · go_enter Tryd.func66, Tryd.ntmps66
    go_wp2_with fail
    refine (rnum_any 2 _ p st H.out HM.out).mono ?_
    rintro e w1 ⟨rfl, h1, h2⟩
    rw [← HN.out]
    have H1 := Lib.hid h1
    have H2 := Lib.hid h2
    clear h1 h2
    go_wp2_with fail
    refine (rfixed_any n _ p _ H1.out ?_).mono ?_
    · intro x hx
      cases st with
      | none => cases hx
      | some s =>
        cases hx
        exact Nat.le_trans (rest_le s 2).1 (HM.out s rfl)
    rintro e w2 ⟨rfl, h3, h4⟩
    have H3 := Lib.hid h3
    have H4 := Lib.hid h4
    clear h3 h4
    go_wp2
    go_ret
    have h3 := H3.out
    have hN := HN.out
    refine ⟨?_, ?_, grownBy_trans H2.out H4.out⟩
    · cases st with
      | none => rfl
      | some s =>
        simp at hN
        rw [hN] at hl
        simp [RSt.text, hN, hl]
    · cases st with
      | none => exact h3
      | some s =>
        simp at hN
        rw [hN] at hl
        simpa [RSt.text, hN, hl] using h3
end Go.Proofs.YtioahjdojgcfdaaDoor

namespace Go.Proofs.YtioahjdojgcfdaaDoor
open Go.RowKit

set_option maxHeartbeats 400000 in
theorem wtext_any (s : ByteArray) (hm : s.size ≤ maxLen) (w : World) (p : Option Addr) (st : Option WSt) (h : WsAt w p st) (hs : WRoom st (2 + s.size)) :
    Calls Tryd.prog 61 #[.pointer p, .string s] w fun e w' => e = .returned (.pointer p) ∧ WsAt w' p (st.map (·.text s)) ∧ w.grownBy w' (prow p) := by
  have H := Lib.hid h
  have HR := Lib.hid hs
  clear h hs
  unfold maxLen at hm
  by_cases hk : s.size ≤ 4096
  · have e : (fun st : WSt => st.text s) = (fun st => (st.put (str (be s.size 2))).put s) := by funext st; simp [WSt.text, hk]
    rw [e]
    clear e
    go_enter Tryd.func61, Tryd.ntmps61
    go_wp2_with fail
    refine (number_any s.size 2 (by omega) (by omega) _).mono ?_
    rintro e w1 ⟨rfl, hb⟩
    have HB := Lib.hid (grownBy_below hb)
    clear hb
    go_wp2_with fail
    refine (put_ws (str (be s.size 2)) _ p st (H.out.grown HB.out) ?_).mono ?_
    · intro x hx
      have := HR.out x hx
      rw [str_size, be_length]
      omega
    rintro e w2 ⟨rfl, h1, h2⟩
    have H1 := Lib.hid h1
    have H2 := Lib.hid h2
    clear h1 h2
    go_wp2_with fail
    refine (put_ws s _ p _ H1.out ?_).mono ?_
    · intro x hx
      cases st with
      | none => cases hx
      | some y =>
        cases hx
        have := HR.out y rfl
        have h3 := total_put y (str (be s.size 2))
        rw [str_size, be_length] at h3
        show s.size + total (y.put (str (be s.size 2))).ts ≤ _
        omega
    rintro e w3 ⟨rfl, h3, h4⟩
    have H3 := Lib.hid h3
    have H4 := Lib.hid h4
    clear h3 h4
    go_wp2
    go_ret
    refine ⟨rfl, ?_, grownBy_trans (grownBy_any HB.out _) (grownBy_trans H2.out H4.out)⟩
    have := H3.out
    rw [Option.map_map] at this
    exact this
  · have e : (fun st : WSt => st.text s) = (fun st => st.fail 2) := by funext st; simp [WSt.text, hk]
    rw [e]
    clear e
    go_enter Tryd.func61, Tryd.ntmps61
    go_wp2_with fail
    refine (fail_ws 2 _ p st H.out).mono ?_
    rintro e w' ⟨rfl, h1, h2⟩
    have H1 := Lib.hid h1
    have H2 := Lib.hid h2
    clear h1 h2
    go_wp2
    go_ret
    exact ⟨rfl, H1.out, H2.out⟩

end Go.Proofs.YtioahjdojgcfdaaDoor

namespace Go.Proofs.YtioahjdojgcfdaaDoor

theorem uponIn_round {F : Fence} {n : Nat} {P : Program} {o : Oper} {a : Act} {K : Act → World → Prop} {Q : Exit → Act → World → Prop} (l : Nat) (r) (h : o.uponIn F n P a K Q r) : o.uponIn (F.inRound l) n P a K Q r := h
theorem wpAnyIn_round {F : Fence} {n : Nat} {P : Program} {md : Region.Mode} {ops : Array Oper} {Q : Exit → Act → World → Prop} {l : Nat} (hro : F.round = none) (hd : ∀ (i : Nat) (o : Oper), ops[i]? = some o → ∀ c, o.op ≠ .defer c) :
    ∀ (fuel : Nat) (listed : Array Bool) (a : Act) (w : World), wpAnyIn F n P md ops Q fuel listed a w → wpAnyIn (F.inRound l) n P md ops Q fuel listed a w := by
  intro fuel
  induction fuel with
  | zero => exact fun _ _ _ h => h
  | succ fuel ih =>
    intro listed a w h
    refine ⟨h.1, fun i hi => ?_⟩
    have h2 := h.2 i hi
    unfold wpOpIn at h2 ⊢
    cases ho : ops[i]? with
    | none => rw [ho] at h2; exact ih _ _ _ h2
    | some o =>
      rw [ho] at h2
      dsimp only at h2 ⊢
      split
      · rename_i hw
        rw [if_pos hw] at h2
        have h3 := Oper.wpIn_mono (K' := fun a' w' => wpAnyIn (F.inRound l) n P md ops Q fuel (listed.setIfInBounds i true) a' w') (fun a' w' h => ih _ _ _ h) h2
        refine ⟨h3.1, ?_⟩
        have h4 := h3.2
        rw [Oper.semAt_plain F _ _ (hd i o ho)] at h4
        rw [Oper.semAt_plain (F.inRound l) _ _ (hd i o ho)]
        exact uponIn_round l _ h4
      · rename_i hw
        rw [if_neg hw] at h2
        exact ⟨h2.1, ih _ _ _ h2.2⟩
/-- a plain region's walk, carried into a round -/
theorem uponIn_plain {P : Program} {n : Nat} {o : Oper} {a : Act} {K : Act → World → Prop} {Q : Exit → Act → World → Prop} (l : Nat) (r) (h : o.upon P a K Q r) : o.uponIn (Fence.wide.inRound l) n P a K Q r := by
  match r, h with
  | .ok (.value _) _, h => exact h
  | .ok .skip _, h => exact h
  | .ok (.defer _) _, h => exact h
  | .ok (.enter _ _) _, h => exact ⟨fun h0 => by simp [Fence.wide, Fence.inRound] at h0, (callsIn_wide (n := n - 1)).2 h⟩
  | .ok (.row row args) w', h => exact ⟨fun h0 => by simp [Fence.wide, Fence.inRound] at h0, fun c cs _ => let ⟨v, w'', r, s⟩ := h c cs; ⟨v, w'', r, stepsIn_wide.2 s⟩⟩
  | .halt (.panic _) _, h => exact h
theorem wpAny_round {n : Nat} {P : Program} {md : Region.Mode} {ops : Array Oper} {Q : Exit → Act → World → Prop} (l : Nat) (hQ : ¬ LetsOut Q) (hd : ∀ (i : Nat) (o : Oper), ops[i]? = some o → ∀ c, o.op ≠ .defer c) :
    ∀ (fuel : Nat) (listed : Array Bool) (a : Act) (w : World), wpAny P md ops Q fuel listed a w → wpAnyIn (Fence.wide.inRound l) n P md ops Q fuel listed a w := by
  intro fuel
  induction fuel with
  | zero => exact fun _ _ _ h => h
  | succ fuel ih =>
    intro listed a w h
    refine ⟨h.1, fun i hi => ?_⟩
    have h2 := h.2 i hi
    unfold wpOp at h2
    unfold wpOpIn
    cases ho : ops[i]? with
    | none => rw [ho] at h2; exact ih _ _ _ h2
    | some o =>
      rw [ho] at h2
      dsimp only at h2 ⊢
      split
      · rename_i hw
        rw [if_pos hw] at h2
        rcases h2 with h2 | h2
        · have h3 : o.wpIn (Fence.wide.inRound l) n P a w (wpAny P md ops Q fuel (listed.setIfInBounds i true)) Q := by
            refine ⟨fun _ _ => trivial, ?_⟩
            rw [Oper.semAt_plain (Fence.wide.inRound l) _ _ (hd i o ho)]
            exact uponIn_plain l _ h2
          exact Oper.wpIn_mono (fun a' w' h => ih _ _ _ h) h3
        · exact absurd h2.2 hQ
      · rename_i hw
        rw [if_neg hw] at h2
        exact ⟨fun _ _ => trivial, ih _ _ _ h2⟩
end Go.Proofs.YtioahjdojgcfdaaDoor

namespace Go.Proofs.YtioahjdojgcfdaaDoor
open Go.RowKit

/-- the document's bytes of a number, or none -/
def refNum (n : Nat) (k : Int) : List UInt8 := if 1 ≤ k ∧ k ≤ 8 ∧ n < 256 ^ k.toNat then be n k.toNat else []

theorem str_append (a b : List UInt8) : str a ++ str b = str (a ++ b) := by
  apply ByteArray.ext
  simp [str]

theorem one_stringO (w : World) (q : Nat) : (convert 57 9 (.slice (some ⟨w.heap.size, 0, none⟩) 1 1)).run Tryd.prog (w.alloc (.cells #[.int .u8 ((q : Int) % 256)] 5)) =
    .ok (.string (str [UInt8.ofNat (q % 256)])) (w.alloc (.cells #[.int .u8 ((q : Int) % 256)] 5)) := by
  refine run_convert_bytes_back _ 57 9 5 _ 1 [UInt8.ofNat (q % 256)] Tryd.underlying57 Tryd.underlying5 Tryd.underlying9 fun j hj => ?_
  obtain rfl : j = 0 := by simp at hj; omega
  rw [show Addr.add ⟨w.heap.size, 0, none⟩ 0 = (⟨w.heap.size, 0, none⟩ : Addr) from rfl, cell_of (heap_alloc_at w _ _ rfl)]
  simp

set_option maxHeartbeats 400000 in
theorem refNum_any (n : Nat) (hn : n ≤ 18446744073709551615) (k : Int) (hk0 : -9223372036854775808 ≤ k ∧ k ≤ 9223372036854775807) (w : World) :
    Calls Tryd.prog 73 #[.int .u64 n, .int .i64 k] w fun e w' => e = .returned (.string (str (refNum n k))) ∧ w.grownBy w' none := by
  by_cases hk : 1 ≤ k ∧ k ≤ 8
  · obtain ⟨k, rfl⟩ := Int.eq_ofNat_of_zero_le (show 0 ≤ k by omega)
    go_enter Tryd.func73, Tryd.ntmps73
    go_wp2_with fail
    go_loopw [0, 5, 6] (fun m s i wr => ∃ j : Nat, ∃ q : Nat, j ≤ k ∧ i = .int .i64 j ∧ m = .int .u64 q ∧ Hid (q = n / 256 ^ j) ∧ s = .string (str (be n j)) ∧ Hid (w.grownBy wr none))
      (fun _ _ i _ => k - (intOf i).toNat)
    case atStart => exact ⟨0, n, Nat.zero_le _, rfl, rfl, by simp [Hid], rfl, World.grownBy.refl _ _⟩
    case round =>
      obtain ⟨j, q, hj, rfl, rfl, HQ, rfl, HG⟩ := hrel
      by_cases hlt : j < k
      · have hc := one_stringO wr q
        have hs : (str [UInt8.ofNat (q % 256)]).size + (str (be n j)).size ≤ 9223372036854775807 := by
          rw [str_size, str_size, be_length]
          simp
          omega
        have hq : q ≤ 18446744073709551615 := by
          have := HQ.out
          have h2 := Nat.div_le_self n (256 ^ j)
          omega
        go_wp2
        go_roundw
        case rel =>
          refine ⟨j + 1, q / 256, by omega, by go_num, by simp, ?_, ?_, ?_⟩
          · show _ = _
            rw [HQ.out, Nat.div_div_eq_div_mul, Nat.pow_succ]
          · rw [str_append, be_cons, ← HQ.out]
            rfl
          · exact grownBy_alloc' HG.out _
        case measure => simp [intOf]; omega
      · have hjk : j = k := by omega
        by_cases hf : n < 256 ^ k
        · have hq0 : q = 0 := by
            rw [HQ.out, hjk]
            exact Nat.div_eq_of_lt hf
          subst hq0
          go_wp2
          go_ret
          refine ⟨?_, HG.out⟩
          have e : refNum n k = be n k := by simp [refNum, hf]; omega
          rw [e, ← hjk]
          rfl
        · have hq0 : 0 < q := by
            rw [HQ.out, hjk]
            exact Nat.div_pos (by omega) (Nat.pos_of_ne_zero (by simp))
          go_wp2
          go_ret
          refine ⟨?_, HG.out⟩
          have e : refNum n k = [] := by simp [refNum, hf]
          rw [e]
          rfl
  · have e : refNum n k = [] := by
      unfold refNum
      rw [if_neg (by intro h; exact hk ⟨h.1, h.2.1⟩)]
    rw [e]
    by_cases h0 : 0 < k
    · have h8 : 8 < k := by omega
      by_cases hn0 : 0 < n
      · go_enter Tryd.func73, Tryd.ntmps73
        go_wp2_with fail
        refine wp_loop_rounds 1 ?_
        rw [rounds_succ]
        go_wp2
        go_ret
        exact ⟨rfl, World.grownBy.refl _ _⟩
      · obtain rfl : n = 0 := by omega
        go_enter Tryd.func73, Tryd.ntmps73
        go_wp2_with fail
        refine wp_loop_rounds 1 ?_
        rw [rounds_succ]
        go_wp2
        go_ret
        exact ⟨rfl, World.grownBy.refl _ _⟩
    · by_cases hn0 : 0 < n
      · go_enter Tryd.func73, Tryd.ntmps73
        go_wp2_with fail
        refine wp_loop_rounds 1 ?_
        rw [rounds_succ]
        go_wp2
        go_ret
        exact ⟨rfl, World.grownBy.refl _ _⟩
      · obtain rfl : n = 0 := by omega
        go_enter Tryd.func73, Tryd.ntmps73
        go_wp2_with fail
        refine wp_loop_rounds 1 ?_
        rw [rounds_succ]
        go_wp2
        go_ret
        exact ⟨rfl, World.grownBy.refl _ _⟩
end Go.Proofs.YtioahjdojgcfdaaDoor

namespace Go.Proofs.YtioahjdojgcfdaaDoor
open Go.RowKit

def ints (L : List Int) : List Value := L.map (Value.int .i64)
theorem ints_length (L : List Int) : (ints L).length = L.length := by simp [ints]
theorem ints_append (L M : List Int) : ints (L ++ M) = ints L ++ ints M := by simp [ints]
theorem ints_at (L : List Int) (i : Nat) (h : i < L.length) : (ints L)[i]? = some (.int .i64 L[i]) := by simp [ints, List.getElem?_eq_getElem h]
/-- a slice that holds these numbers -/
def IntsAt (w : World) (v : Value) (L : List Int) : Prop :=
  ∃ a cap, v = .slice a L.length cap ∧ ∀ i (h : i < L.length), ∃ g o, a = some ⟨g, o, none⟩ ∧ w.cell? ⟨g, o + i, none⟩ = some (.int .i64 L[i])
theorem IntsAt.kept {w w' : World} {v : Value} {L : List Int} (h : IntsAt w v L) (hb : w.grownBy w' none) : IntsAt w' v L := by
  obtain ⟨a, cap, rfl, hc⟩ := h
  refine ⟨a, cap, rfl, fun i hi => ?_⟩
  obtain ⟨g, o, ha, hcell⟩ := hc i hi
  exact ⟨g, o, ha, hb.cell hcell (by simp)⟩
theorem IntsAt.nil (w : World) (a : Option Addr) (cap : Nat) : IntsAt w (.slice a 0 cap) [] := ⟨a, cap, rfl, fun i h => absurd h (by simp)⟩
theorem ints_of_own {w : World} {B n : Nat} {t : TypeId} {a : Option Addr} {cap : Nat} {L : List Int} (h : w.ownsRow B t 1 (.slice a n cap) n (ints L)) : IntsAt w (.slice a n cap) L := by
  have hl := h.1
  simp [ints] at hl
  subst hl
  refine ⟨a, cap, rfl, fun i hi => ?_⟩
  rcases h.2 with ⟨_, h0⟩ | ⟨g, cap', cur, he, hB, hg, hnc, hm, hcs, htake⟩
  · omega
  · cases he
    refine ⟨g, 0, rfl, ?_⟩
    rw [Nat.zero_add, cell_of hg]
    have : (ints L)[i]? = some (.int .i64 L[i]) := ints_at L i hi
    rw [← htake, List.getElem?_take, if_pos (by omega)] at this
    simpa using this
theorem own_kept {w w' : World} {B n : Nat} {t : TypeId} {v : Value} {xs : List Value} (h : w.ownsRow B t 1 v n xs) (hg : w.grownBy w' none) : w'.ownsRow B t 1 v n xs := by
  obtain ⟨hl, h⟩ := h
  refine ⟨hl, ?_⟩
  rcases h with h' | ⟨g, cap, cur, rfl, a, hgg, r⟩
  · exact .inl h'
  · refine .inr ⟨g, cap, cur, rfl, a, ?_, r⟩
    rw [hg.block g (Array.getElem?_eq_some_iff.1 hgg).1 (by simp)]
    exact hgg
end Go.Proofs.YtioahjdojgcfdaaDoor
