/- The walk of an update's Decode: bytes that it made, and bytes that are too short or too long. · Plain words: a header, its bytes, what may be wrong with it; what a Reader reads of bytes as a header. No walk. · Arrays of sixteen bytes: sliced, loaded, held against one another. No walk. · The walks of bits.First and of the document's Bit. · What BitsOrder and BitsBands need of plain bits. No walk. · Plain words for sparse trees: nodes of pairs. No walk. · Worlds that turn but in some blocks; the blocks from a number on that are not the caller's own. No walk; no type of the program. · What a sparse tree holds in memory: pairs in a map. No walk. · The walk of layer 14's laws' key. · The walk of proof's turned. · Out of the listed variables: package sha's two tables in memory; and a world for the witness. · Arguments opened: arrays of bytes, slices of integers. No walk. · A row's post, where the call has only made memory. No walk. -/
import Derived.Test.YtioahjdojgcfdaaDoorPolC
import Derived.Test.YtioahjdojgcfdaaDoorAttestParsesB5
import Derived.Test.YtioahjdojgcfdaaDoorAttestParsesB4
import Derived.Handy
import Derived.Deep.DeepCutAuto
import Derived.Test.YtioahjdojgcfdaaDoorAttestParsesB2
import Derived.ChangeKeysEq
import Derived.Laws.BitsAllLaws
import Derived.Test.YtioahjdojgcfdaaDoorAttestParsesB1
import Derived.Deep.MidRow
import Derived.Maps.OwnSet
import Derived.Lib.ConvBytes
import Derived.Test.YtioahjdojgcfdaaDoorCards
import Derived.Test.YtioahjdojgcfdaaDoorTie
import Derived.Test.YtioahjdojgcfdaaDoorShaCalls
import Derived.Lib.LaidIn
import Derived.Lib.LaidU8T
import Derived.Deep.DeepHandedRow
import Derived.Deep.DeepWitnessRowRef
import Derived.ProofKit
import Derived.OpenShut
import Derived.ShutString
import Derived.Test.YtioahjdojgcfdaaDoorAttestParsesB3
import Derived.WideKeyArr2
import Derived.ChangeSlices
import Derived.Test.YtioahjdojgcfdaaDoorRows
import Derived.WalkKit
namespace Go.Proofs.YtioahjdojgcfdaaDoor
open Go.RowKit
attribute [local irreducible] shaL

theorem rd_textU {w : World} {b : Nat} {s : RSt} (h : RdAt w b s.rest s.err) (hm : s.rest.size ≤ maxLen) :
    Calls Tryd.prog 66 #[.pointer (some ⟨b, 0, none⟩)] w fun e w' => e = .returned (.string s.text.1) ∧ RdAt w' b s.text.2.rest s.text.2.err ∧ w.grownBy w' (some b) := by
  refine (rtext_any w (some ⟨b, 0, none⟩) (some s) ⟨b, rfl, h⟩ (by rintro x ⟨⟩; exact hm)).mono ?_
  rintro e w' ⟨rfl, hw, g⟩
  obtain ⟨b', e', hw⟩ := hw
  cases e'
  exact ⟨rfl, hw, g⟩
theorem text_rest_leU (s : RSt) : s.text.2.rest.size ≤ s.rest.size := by
  have h1 := (rest_le s 2).1
  have hf : ∀ (s : RSt) e, (s.fail e).rest.size = s.rest.size := by intro s e; unfold RSt.fail; split <;> rfl
  unfold RSt.text
  split
  · show ((s.num 2).2.fail 4).rest.size ≤ _
    rw [hf]; exact h1
  · exact Nat.le_trans (rest_le _ _).2 h1
/-- what Decode answers where the bytes are an update's -/
def UpdAns (w : World) (l : ByteArray) (x : EntS) (i h : Nat) (C P : List ByteArray) (e : Ending) (w' : World) : Prop :=
  ∃ ca cc pa pc, e = .returned (.tuple #[updV l x i (.slice ca 35 cc) (.slice pa h pc), .int .i64 0]) ∧ w'.ownsRow w.heap.size 9 1 (.slice ca 35 cc) 35 (strsV C) ∧ w'.ownsRow w.heap.size 9 1 (.slice pa h pc) h (strsV P) ∧ w.grownBy w' none
end Go.Proofs.YtioahjdojgcfdaaDoor

namespace Go.Proofs.YtioahjdojgcfdaaDoor
attribute [local irreducible] shaL

structure HdrS where
  e : Nat
  p : ByteArray
  d : Int
  a : Int
  L : List ByteArray
/-- may a text be a node? -/
def nodeOk (s : ByteArray) : Bool := decide (s = ⟨#[0]⟩) || (decide (s.size = 17) && (decide (s.data.toList.head? = some 1) || decide (s.data.toList.head? = some 2)))
theorem nodeOk_size {s : ByteArray} (h : nodeOk s = true) : s.size ≤ 17 := by
  unfold nodeOk at h
  rw [Bool.or_eq_true, Bool.and_eq_true] at h
  rcases h with h | ⟨h, _⟩
  · rw [of_decide_eq_true h]; decide
  · rw [of_decide_eq_true h]; decide
def HdrS.wide (x : HdrS) : Prop := 4294967295 < x.e ∨ x.p.size ≠ 16 ∨ x.d < 0 ∨ 4 < x.d ∨ x.a < 0 ∨ 64 < x.a
instance (x : HdrS) : Decidable x.wide := by unfold HdrS.wide; infer_instance
def HdrS.err (x : HdrS) : Int := if x.wide then 10 else if x.L.length ≠ 2 ^ x.d.toNat then 22 else if x.L.all nodeOk = true then 0 else 4
def HdrS.bytes (x : HdrS) : List UInt8 := be x.e 4 ++ (x.p.data.toList ++ (be x.d.toNat 1 ++ (be x.a.toNat 1 ++ textsB x.L)))
def HdrS.enc (x : HdrS) : ByteArray := if x.err = 0 then str x.bytes else ⟨#[]⟩
def HdrS.dig (x : HdrS) : ByteArray := if x.err = 0 then tagS 14 [str x.bytes] else ⟨#[]⟩
theorem HdrS.fit {x : HdrS} (h : x.err = 0) : ¬ x.wide ∧ x.L.length = 2 ^ x.d.toNat ∧ ∀ s ∈ x.L, nodeOk s = true := by
  unfold HdrS.err at h
  split at h
  · omega
  · split at h
    · omega
    · split at h
      · rename_i h1 h2 h3
        exact ⟨h1, by omega, List.all_eq_true.1 h3⟩
      · omega
theorem HdrS.of_fit {x : HdrS} (h1 : ¬ x.wide) (h2 : x.L.length = 2 ^ x.d.toNat) (h3 : ∀ s ∈ x.L, nodeOk s = true) : x.err = 0 := by
  unfold HdrS.err
  rw [if_neg h1, if_neg (by omega), if_pos (List.all_eq_true.2 h3)]
theorem HdrS.fits {x : HdrS} (h : x.err = 0) : x.e ≤ 4294967295 ∧ x.p.size = 16 ∧ (0 ≤ x.d ∧ x.d ≤ 4) ∧ (0 ≤ x.a ∧ x.a ≤ 64) := by
  have := (HdrS.fit h).1
  unfold HdrS.wide at this
  omega
theorem pow4 {d : Nat} (h : d ≤ 4) : 2 ^ d ≤ 16 := Nat.pow_le_pow_right (n := 2) (by decide) h
theorem textsB_17 : ∀ (L : List ByteArray), (∀ s ∈ L, s.size ≤ 17) → (textsB L).length ≤ 19 * L.length
  | [], _ => Nat.zero_le _
  | x :: r, h => by
    have h1 := textsB_17 r (fun y hy => h y (List.mem_cons_of_mem _ hy))
    have h2 := h x List.mem_cons_self
    show (textB x ++ textsB r).length ≤ _
    have h3 : (textB x).length = 2 + x.size := by unfold textB; rw [List.length_append, be_length]; rfl
    rw [List.length_append, h3, List.length_cons]
    omega
theorem HdrS.len {x : HdrS} (h : x.err = 0) : x.bytes.length ≤ 400 := by
  obtain ⟨_, h2, h3⟩ := HdrS.fit h
  obtain ⟨f1, f2, f3, f4⟩ := HdrS.fits h
  have ht := textsB_17 x.L (fun s hs => nodeOk_size (h3 s hs))
  have hp : 2 ^ x.d.toNat ≤ 16 := pow4 (by omega)
  have hpl : x.p.data.toList.length = 16 := by rw [Array.length_toList]; exact f2
  unfold HdrS.bytes
  simp only [List.length_append, be_length, hpl]
  omega
theorem HdrS.dig_size {x : HdrS} (h : x.err = 0) : x.dig.size = 16 := by
  unfold HdrS.dig
  rw [if_pos h]
  exact tagS_size _ _
theorem HdrS.dig_le (x : HdrS) : x.dig.size ≤ 16 := by
  by_cases h : x.err = 0
  · rw [HdrS.dig_size h]; decide
  · unfold HdrS.dig
    rw [if_neg h]
    decide
theorem HdrS.dig_none {x : HdrS} (h : x.err ≠ 0) : x.dig = ⟨#[]⟩ := by
  unfold HdrS.dig
  rw [if_neg h]
/-- may it be the first one? -/
def HdrS.gen (x : HdrS) : Int := if x.err ≠ 0 then x.err else if x.e ≠ 0 then 14 else if x.p ≠ noughtsS then 15 else 0
/-- may another one follow? -/
def HdrS.next (h x : HdrS) : Int := if x.err ≠ 0 then x.err else if x.e = 0 ∨ x.e - 1 ≠ h.e then 14 else if x.p ≠ h.dig then 15 else if x.d ≠ h.d ∨ x.a < h.a then 22 else 0
def hdrZ : HdrS := ⟨0, ⟨#[]⟩, 0, 0, []⟩
theorem hdrZ_err : hdrZ.err = 10 := by
  unfold HdrS.err
  rw [if_pos (show hdrZ.wide from Or.inr (Or.inl (by decide)))]

/-! what is read -/
structure DecH where
  e : Nat
  p : ByteArray
  d : Nat
  a : Nat
  L : List ByteArray
  s : RSt
def decH (j : ByteArray) : DecH :=
  let s1 := (⟨j, 0⟩ : RSt).num 4
  let s2 := s1.2.fixed 16
  let s3 := s2.2.num 1
  let s4 := s3.2.num 1
  let s5 := readK s4.2 (2 ^ s3.1)
  ⟨s1.1, s2.1, s3.1, s4.1, s5.1, s5.2⟩
def DecH.hdr (x : DecH) : HdrS := ⟨x.e, x.p, x.d, x.a, x.L⟩
def DecH.err (x : DecH) : Int := if 4 < x.d then 10 else if x.s.done ≠ 0 then x.s.done else x.hdr.err
def DecH.ans (x : DecH) : HdrS := if x.err = 0 then x.hdr else hdrZ
theorem num_small (s : RSt) (k : Nat) (h : 1 ≤ k ∧ k ≤ 8) : (s.num k).1 < 256 ^ k := by
  rw [num_of s k h]
  have h3 := fixed_size s k
  have h4 := val_lt ((s.fixed k).1.data.toList)
  have h5 : 256 ^ (s.fixed k).1.data.toList.length ≤ 256 ^ k := Nat.pow_le_pow_right (by decide) (by rw [Array.length_toList]; exact h3)
  exact Nat.lt_of_lt_of_le h4 h5
theorem dec_hdr {x : HdrS} (h : x.err = 0) : decH (str x.bytes) = ⟨x.e, x.p, x.d.toNat, x.a.toNat, x.L, ⟨str [], 0⟩⟩ := by
  obtain ⟨_, h2, h3⟩ := HdrS.fit h
  obtain ⟨f1, f2, f3, f4⟩ := HdrS.fits h
  have e4 : (4 : Int).toNat = 4 := rfl
  have e1 : (1 : Int).toNat = 1 := rfl
  have a1 := rd_num (n := x.e) (k := 4) ⟨by omega, by omega, by show x.e < 4294967296; omega⟩ (x.p.data.toList ++ (be x.d.toNat 1 ++ (be x.a.toNat 1 ++ textsB x.L)))
  rw [e4] at a1
  have a2 := rd_fixed x.p (be x.d.toNat 1 ++ (be x.a.toNat 1 ++ textsB x.L))
  rw [f2] at a2
  have a2 : (⟨str (x.p.data.toList ++ (be x.d.toNat 1 ++ (be x.a.toNat 1 ++ textsB x.L))), 0⟩ : RSt).fixed 16 = _ := a2
  have a3 := rd_num (n := x.d.toNat) (k := 1) ⟨by omega, by omega, by show x.d.toNat < 256; omega⟩ (be x.a.toNat 1 ++ textsB x.L)
  rw [e1] at a3
  have a4 := rd_num (n := x.a.toNat) (k := 1) ⟨by omega, by omega, by show x.a.toNat < 256; omega⟩ (textsB x.L)
  rw [e1] at a4
  have a5 := read_texts [] [] x.L (by intro s hs; rw [List.append_nil] at hs; have := nodeOk_size (h3 s hs); omega)
  rw [List.append_nil, List.append_nil, List.append_nil, h2] at a5
  unfold decH HdrS.bytes
  simp only
  rw [a1]
  simp only
  rw [a2]
  simp only
  rw [a3]
  simp only
  rw [a4]
  simp only
  rw [a5]
  rfl
theorem hdr_dec {x : HdrS} (h : x.err = 0) : (decH (str x.bytes)).err = 0 ∧ (decH (str x.bytes)).ans = x := by
  obtain ⟨f1, f2, f3, f4⟩ := HdrS.fits h
  have hx : (⟨x.e, x.p, x.d.toNat, x.a.toNat, x.L, ⟨str [], 0⟩⟩ : DecH).hdr = x := by
    obtain ⟨e, p, d, a, L⟩ := x
    show (⟨e, p, (d.toNat : Int), (a.toNat : Int), L⟩ : HdrS) = ⟨e, p, d, a, L⟩
    have e1 : (d.toNat : Int) = d := Int.toNat_of_nonneg f3.1
    have e2 : (a.toNat : Int) = a := Int.toNat_of_nonneg f4.1
    rw [e1, e2]
  have he : (decH (str x.bytes)).err = 0 := by
    unfold DecH.err
    rw [dec_hdr h, hx, h]
    rw [if_neg (show ¬ 4 < x.d.toNat by omega)]
    rfl
  refine ⟨he, ?_⟩
  unfold DecH.ans
  rw [if_pos he, dec_hdr h, hx]
theorem done_zero {s : RSt} (h : s.done = 0) : s.err = 0 ∧ s.rest.size = 0 := by
  unfold RSt.done at h
  split at h
  · omega
  · rename_i q
    exact ⟨h, Nat.eq_zero_of_not_pos fun q2 => q ⟨h, by omega⟩⟩
theorem done_codes {s : RSt} (h : errOK s) : s.done = 0 ∨ s.done = 2 ∨ s.done = 3 ∨ s.done = 4 := by
  unfold RSt.done
  split
  · exact Or.inr (Or.inl rfl)
  · rcases h with h | h | h <;> simp [h]
theorem decH_codes (j : ByteArray) (h : (decH j).err ≠ 0) : (decH j).err = 2 ∨ (decH j).err = 3 ∨ (decH j).err = 4 ∨ (decH j).err = 10 := by
  have hs : errOK (decH j).s := by
    unfold decH
    exact readK_err (num_err (num_err (fixed_err (num_err (Or.inl rfl) 4) 16) 1) 1) _
  have hl : (decH j).L.length = 2 ^ (decH j).d := by
    unfold decH
    exact readK_len _ _
  unfold DecH.err at h ⊢
  split
  · simp
  · rename_i h4
    rw [if_neg h4] at h
    split
    · rename_i hd
      rcases done_codes hs with q | q | q | q <;> simp [q] at hd ⊢
    · rename_i hd
      rw [if_neg hd] at h
      unfold HdrS.err
      split
      · simp
      · split
        · rename_i q
          exact absurd hl q
        · split
          · rename_i q1 q2 q3
            exfalso
            apply h
            unfold HdrS.err
            rw [if_neg q1, if_neg q2, if_pos q3]
          · simp
theorem hdr_back' (j : ByteArray) (s1 : Nat × RSt) (s2 : ByteArray × RSt) (s3 s4 : Nat × RSt) (s5 : List ByteArray × RSt) (h1 : (⟨j, 0⟩ : RSt).num 4 = s1) (h2 : s1.2.fixed 16 = s2) (h3 : s2.2.num 1 = s3) (h4 : s3.2.num 1 = s4) (h5 : readK s4.2 (2 ^ s3.1) = s5)
    (he : s5.2.err = 0) (hr : s5.2.rest.size = 0) (hp : s2.1.size = 16) : j = str (be s1.1 4 ++ (s2.1.data.toList ++ (be s3.1 1 ++ (be s4.1 1 ++ textsB s5.1)))) := by
  have b5 := readK_back (s := s4.2) (2 ^ s3.1) (by rw [h5]; exact he)
  rw [h5] at b5
  have b4 := num_back (s := s3.2) (k := 1) ⟨by omega, by omega⟩ (by rw [h4]; exact b5.1)
  rw [h4] at b4
  obtain ⟨b40, l4, l4l, l4v, l4r⟩ := b4
  have b3 := num_back (s := s2.2) (k := 1) ⟨by omega, by omega⟩ (by rw [h3]; exact b40)
  rw [h3] at b3
  obtain ⟨b30, l3, l3l, l3v, l3r⟩ := b3
  have b20 : s1.2.err = 0 := fixed_stay (k := 16) (by rw [h2]; exact b30)
  have b1 := num_back (s := (⟨j, 0⟩ : RSt)) (k := 4) ⟨by omega, by omega⟩ (by rw [h1]; exact b20)
  rw [h1] at b1
  obtain ⟨_, l1, l1l, l1v, l1r⟩ := b1
  have hq : s1.2.rest.data.toList = s2.1.data.toList ++ s2.2.rest.data.toList := by
    rw [← h2] at b30 hp ⊢
    unfold RSt.fixed at b30 hp ⊢
    rw [if_neg (by omega)] at b30 hp ⊢
    rw [if_neg (by omega)] at b30 hp ⊢
    split at b30
    · rename_i hs
      rw [if_pos hs] at hp
      exact absurd (show (ByteArray.empty).size = 16 from hp) (by decide)
    · rename_i hs
      rw [if_neg hs]
      show s1.2.rest.data.toList = (s1.2.rest.extract 0 (16 : Int).toNat).data.toList ++ (s1.2.rest.extract (16 : Int).toNat s1.2.rest.size).data.toList
      rw [ByteArray.data_extract, ByteArray.data_extract, Array.toList_extract, Array.toList_extract]
      have e : (s1.2.rest.data.toList.drop (16 : Int).toNat).take (s1.2.rest.size - (16 : Int).toNat) = s1.2.rest.data.toList.drop (16 : Int).toNat := List.take_of_length_le (by rw [List.length_drop, Array.length_toList]; exact Nat.le_refl _)
      show s1.2.rest.data.toList = ((s1.2.rest.data.toList.drop 0).take ((16 : Int).toNat - 0)) ++ ((s1.2.rest.data.toList.drop (16 : Int).toNat).take (s1.2.rest.size - (16 : Int).toNat))
      rw [e, List.drop_zero, Nat.sub_zero, List.take_append_drop]
  have hrest : s5.2.rest.data.toList = [] := by rw [List.eq_nil_iff_length_eq_zero, Array.length_toList]; exact hr
  have hj : j.data.toList = be s1.1 4 ++ (s2.1.data.toList ++ (be s3.1 1 ++ (be s4.1 1 ++ textsB s5.1))) := by
    show (⟨j, 0⟩ : RSt).rest.data.toList = _
    rw [l1r, hq, l3r, l4r, b5.2.2, hrest, List.append_nil, l1v, l3v, l4v, be_val l1 4 l1l, be_val l3 1 l3l, be_val l4 1 l4l]
  rw [← hj, str_self']
/-- bytes that are a header's are its bytes -/
theorem hdr_back (j : ByteArray) (h : (decH j).err = 0) : j = str (decH j).ans.bytes ∧ (decH j).ans.err = 0 := by
  have ha : (decH j).ans = (decH j).hdr := by unfold DecH.ans; rw [if_pos h]
  rw [ha]
  have h0 := h
  unfold DecH.err at h
  split at h
  · omega
  · split at h
    · omega
    · rename_i h4 hd
      have hz := done_zero (s := (decH j).s) (by omega)
      refine ⟨?_, h⟩
      have hp := (HdrS.fits h).2.1
      exact hdr_back' j _ _ _ _ _ rfl rfl rfl rfl rfl hz.1 hz.2 hp
end Go.Proofs.YtioahjdojgcfdaaDoor

namespace Go.Proofs.YtioahjdojgcfdaaDoor
open Go.RowKit

theorem sixteen_size (l : List UInt8) (h : l.length = 16) : (bytesV l).toArray.size = 16 := by simp [bytesV, h]
theorem eqItems_bytes (d : Nat) (la lb : List UInt8) (w : World) : ∀ is : List Nat, (∀ i ∈ is, i < la.length ∧ i < lb.length) →
    (Op.eqItems (d + 1) 5 1 (bytesV la).toArray (bytesV lb).toArray is).run Tryd.prog w = .ok (is.all fun i => la.getD i 0 == lb.getD i 0) w
  | [], _ => by simp [Op.eqItems]
  | i :: is, h => by
    have hp : Tryd.prog.plainKey 5 = true := by kernel_rfl
    obtain ⟨ha, hb⟩ := h i (by simp)
    have xa : (bytesV la).toArray[i * 1]? = some (.int .u8 (la.getD i 0).toNat) := by
      simp [bytesV, List.getElem?_eq_getElem ha, List.getD_eq_getElem?_getD]
    have xb : (bytesV lb).toArray[i * 1]? = some (.int .u8 (lb.getD i 0).toNat) := by
      simp [bytesV, List.getElem?_eq_getElem hb, List.getD_eq_getElem?_getD]
    have ih := eqItems_bytes d la lb w is (fun j hj => h j (by simp [hj]))
    have e : (((la.getD i 0).toNat : Int) == ((lb.getD i 0).toNat : Int)) = (la.getD i 0 == lb.getD i 0) := by
      rw [Bool.eq_iff_iff, beq_iff_eq, beq_iff_eq, ← UInt8.toNat_inj]
      omega
    simp only [Op.eqItems, Sem.run_bind, run_part_plain w hp xa, run_part_plain w hp xb, Result.andThen_ok, run_equalIn_int w d _ _ _ _ _ Tryd.underlying5, e, List.all_cons]
    cases la.getD i 0 == lb.getD i 0
    · simp
    · simpa using ih
end Go.Proofs.YtioahjdojgcfdaaDoor

namespace Go.Proofs.YtioahjdojgcfdaaDoor
open Go.RowKit

/-- the bit of a row of bytes -/
def bitL (l : List UInt8) (i : Nat) : Nat := ((l[i / 8]?).getD 0).toNat / 2 ^ (7 - i % 8) % 2
theorem bitS_str (l : List UInt8) (i : Nat) : bitS (str l) i = bitL l i := rfl
theorem bit_test (x j : Nat) : x / 2 ^ j % 2 = (x.testBit j).toNat := (Nat.toNat_testBit x j).symm
theorem bitL_set (l : List UInt8) (q r c b : Nat) (hq : q < l.length) (hr : r < 8) (hc : ((l[q]?).getD 0).toNat = c) (hb : b ≤ 1) (h0 : bitL l (8 * q + r) = 0) (i : Nat) :
    bitL (l.set q (UInt8.ofNat (c ||| b * 2 ^ (7 - r)))) i = if i = 8 * q + r then b else bitL l i := by
  have hp : 2 ^ (7 - r) ≤ 128 := Nat.le_trans (Nat.pow_le_pow_right (by decide) (by omega : 7 - r ≤ 7)) (by decide)
  have hbp : b * 2 ^ (7 - r) < 256 := by
    have : b * 2 ^ (7 - r) ≤ 1 * 2 ^ (7 - r) := Nat.mul_le_mul_right _ hb
    omega
  have hc8 : c < 256 := by rw [← hc]; exact UInt8.toNat_lt _
  have hor : c ||| b * 2 ^ (7 - r) < 256 := Nat.or_lt_two_pow (n := 8) hc8 hbp
  unfold bitL at h0 ⊢
  rw [show (8 * q + r) / 8 = q from by omega, show (8 * q + r) % 8 = r from by omega, hc, bit_test] at h0
  by_cases hiq : i / 8 = q
  · rw [hiq, List.getElem?_set_self hq, Option.getD_some, UInt8.toNat_ofNat_of_lt' hor, hc, bit_test, bit_test, Nat.testBit_or]
    have hbt : (b * 2 ^ (7 - r)).testBit (7 - i % 8) = (decide (7 - r = 7 - i % 8) && decide (b = 1)) := by
      rcases (by omega : b = 0 ∨ b = 1) with rfl | rfl
      · simp
      · rw [Nat.one_mul, Nat.testBit_two_pow]; simp
    rw [hbt]
    by_cases hir : i % 8 = r
    · rw [if_pos (by omega), hir]
      have : c.testBit (7 - r) = false := by
        cases h : c.testBit (7 - r) with
        | false => rfl
        | true => rw [h] at h0; simp at h0
      rw [this]
      rcases (by omega : b = 0 ∨ b = 1) with rfl | rfl <;> simp
    · rw [if_neg (by omega)]
      have : decide (7 - r = 7 - i % 8) = false := by simp; omega
      rw [this]
      simp
  · rw [List.getElem?_set_ne (fun e => hiq e.symm), if_neg (by omega)]

theorem bytesV_set (l : List UInt8) (q : Nat) (u : UInt8) : (bytesV l).toArray.setIfInBounds q (.int .u8 u.toNat) = (bytesV (l.set q u)).toArray := by
  apply Array.toList_inj.1
  simp [bytesV, List.map_set]

def noughts16 : ByteArray := str (List.replicate 16 0)
end Go.Proofs.YtioahjdojgcfdaaDoor

namespace Go.Proofs.YtioahjdojgcfdaaDoor
open Go.RowKit

theorem bandN_same (a b : ByteArray) : ∀ d, (∀ i, i < d → bitS a i = bitS b i) → bandN a d = bandN b d
  | 0, _ => rfl
  | d + 1, h => by rw [bandN, bandN, bandN_same a b d (fun i hi => h i (by omega)), h d (by omega)]
theorem bandN_less (a b : ByteArray) (k : Nat) (h : ∀ i, i < k → bitS a i = bitS b i) (h0 : bitS a k = 0) (h1 : bitS b k = 1) : ∀ d, k < d → bandN a d < bandN b d
  | 0, hd => by omega
  | d + 1, hd => by
    rw [bandN, bandN]
    by_cases e : k = d
    · subst e
      rw [bandN_same a b k h, h0, h1]; omega
    · have := bandN_less a b k h h0 h1 d (by omega)
      have := bitS_le a d
      omega
theorem bandN_bit (a : ByteArray) : ∀ d i, i < d → bandN a d / 2 ^ (d - 1 - i) % 2 = bitS a i
  | 0, i, h => by omega
  | d + 1, i, h => by
    have hb := bitS_le a d
    rw [bandN]
    by_cases e : i = d
    · subst e
      rw [show i + 1 - 1 - i = 0 from by omega, Nat.pow_zero, Nat.div_one]; omega
    · have ih := bandN_bit a d i (by omega)
      rw [show d + 1 - 1 - i = (d - 1 - i) + 1 from by omega, Nat.pow_succ, Nat.mul_comm (2 ^ _) 2, ← Nat.div_div_eq_div_mul, show (2 * bandN a d + bitS a d) / 2 = bandN a d from by omega]
      exact ih
/-- a text with the bits of a band's number has that band -/
theorem band_of_bits (s : ByteArray) (b d : Nat) (h : ∀ i, i < d → bitS s i = b / 2 ^ (d - 1 - i) % 2) : ∀ k, k ≤ d → bandN s k = b / 2 ^ (d - k) % 2 ^ k
  | 0, _ => by rw [Nat.pow_zero, Nat.mod_one]; rfl
  | k + 1, hk => by
    rw [bandN, band_of_bits s b d h k (by omega), h k (by omega), show d - 1 - k = d - (k + 1) from by omega, show d - k = (d - (k + 1)) + 1 from by omega, Nat.pow_succ 2 (d - (k + 1)), ← Nat.div_div_eq_div_mul]
    generalize b / 2 ^ (d - (k + 1)) = x
    rw [Nat.pow_succ, Nat.mul_comm (2 ^ k) 2, Nat.mod_mul]
    omega
/-- bytes of the same bits are the same -/
theorem top_bits (a b r : Nat) (ha : a < 256) (hb : b < 256) : ∀ m, m ≤ 8 → (∀ j, j < m → a / 2 ^ (7 - j) % 2 = b / 2 ^ (7 - j) % 2) → a / 2 ^ (8 - m) = b / 2 ^ (8 - m)
  | 0, _, _ => by rw [show 2 ^ (8 - 0) = 256 from rfl]; omega
  | m + 1, hm, h => by
    have ih := top_bits a b r ha hb m (by omega) (fun j hj => h j (by omega))
    have h1 := h m (by omega)
    rw [show 8 - m = (7 - m) + 1 from by omega, Nat.pow_succ, ← Nat.div_div_eq_div_mul, ← Nat.div_div_eq_div_mul] at ih
    rw [show 8 - (m + 1) = 7 - m from by omega]
    omega
theorem bitL_byte (l : List UInt8) (q j : Nat) (h : j < 8) : bitL l (8 * q + j) = ((l[q]?).getD 0).toNat / 2 ^ (7 - j) % 2 := by
  unfold bitL
  rw [show (8 * q + j) / 8 = q from by omega, show (8 * q + j) % 8 = j from by omega]
theorem byte_same (l m : List UInt8) (q : Nat) (h : ∀ i, i < 8 → bitL l (8 * q + i) = bitL m (8 * q + i)) : (l[q]?).getD 0 = (m[q]?).getD 0 := by
  have := top_bits _ _ 0 (UInt8.toNat_lt ((l[q]?).getD 0)) (UInt8.toNat_lt ((m[q]?).getD 0)) 8 (Nat.le_refl _) (fun j hj => by
    have := h j hj
    rwa [bitL_byte l q j hj, bitL_byte m q j hj] at this)
  rw [show 2 ^ (8 - 8) = 1 from rfl, Nat.div_one, Nat.div_one] at this
  exact UInt8.toNat_inj.1 this
theorem bits_all (l m : List UInt8) (n : Nat) (hl : l.length = n) (hm : m.length = n) (h : ∀ i, i < 8 * n → bitL l i = bitL m i) : l = m := by
  apply List.ext_getElem (by omega)
  intro q h1 h2
  have := byte_same l m q (fun i hi => h _ (by omega))
  rwa [List.getElem?_eq_getElem h1, List.getElem?_eq_getElem h2] at this
/-- the first bit that is not the same tells the order -/
theorem less_cons (x y : UInt8) (l m : List UInt8) : Op.bytesLess (x :: l) (y :: m) = (decide (x < y) || (x == y && Op.bytesLess l m)) := rfl
theorem less_first : ∀ (q : Nat) (l m : List UInt8), l.length = m.length → q < l.length → (∀ i, i < q → (l[i]?).getD 0 = (m[i]?).getD 0) → (l[q]?).getD 0 < (m[q]?).getD 0 → Op.bytesLess l m = true ∧ Op.bytesLess m l = false
  | _, [], _, _, h, _, _ => by simp at h
  | _, _ :: _, [], h, _, _, _ => by simp at h
  | 0, x :: l, y :: m, _, _, _, h => by
    have hxy : x < y := by simpa using h
    have h2 := UInt8.lt_iff_toNat_lt.1 hxy
    rw [less_cons, less_cons]
    constructor
    · simp [hxy]
    · have h3 : ¬ y < x := by rw [UInt8.lt_iff_toNat_lt]; omega
      have h4 : (y == x) = false := by
        rw [beq_eq_false_iff_ne]
        rintro rfl
        omega
      simp [h3, h4]
  | q + 1, x :: l, y :: m, hl, hq, hs, h => by
    have h0 := hs 0 (by omega)
    have hxy : x = y := by simpa using h0
    subst hxy
    obtain ⟨i1, i2⟩ := less_first q l m (by simpa using hl) (by simpa using hq) (fun i hi => by simpa using hs (i + 1) (by omega)) (by simpa using h)
    have h3 : ¬ x < x := by rw [UInt8.lt_iff_toNat_lt]; omega
    rw [less_cons, less_cons, i1, i2]
    simp [h3]
theorem less_of_bit (l m : List UInt8) (k : Nat) (hl : l.length = m.length) (hk : k < 8 * l.length) (hs : ∀ i, i < k → bitL l i = bitL m i) (h0 : bitL l k = 0) (h1 : bitL m k = 1) : Op.bytesLess l m = true ∧ Op.bytesLess m l = false := by
  obtain ⟨q, hq⟩ : ∃ q, k / 8 = q := ⟨_, rfl⟩
  obtain ⟨r, hr⟩ : ∃ r, k % 8 = r := ⟨_, rfl⟩
  have hkq : k = 8 * q + r := by omega
  subst hkq
  refine less_first q l m hl (by omega) (fun i hi => byte_same l m i (fun j hj => hs _ (by omega))) ?_
  rw [bitL_byte l q r (by omega)] at h0
  rw [bitL_byte m q r (by omega)] at h1
  have ht := top_bits _ _ 0 (UInt8.toNat_lt ((l[q]?).getD 0)) (UInt8.toNat_lt ((m[q]?).getD 0)) r (by omega) (fun j hj => by
    have := hs (8 * q + j) (by omega)
    rwa [bitL_byte l q j (by omega), bitL_byte m q j (by omega)] at this)
  rw [UInt8.lt_iff_toNat_lt]
  generalize ((l[q]?).getD 0).toNat = a at h0 ht ⊢
  generalize ((m[q]?).getD 0).toNat = b at h1 ht ⊢
  rw [show 8 - r = (7 - r) + 1 from by omega, Nat.pow_succ, ← Nat.div_div_eq_div_mul, ← Nat.div_div_eq_div_mul] at ht
  rcases Nat.lt_or_ge a b with h | h
  · exact h
  · have := Nat.div_le_div_right (c := 2 ^ (7 - r)) h
    omega
/-- what the two texts' order says of the first bit that is not the same -/
theorem order_bit (p q : List UInt8) (k : Nat) (hp : p.length = 16) (hq : q.length = 16) (hk : k < 128) (hs : ∀ i, i < k → bitL p i = bitL q i) (hne : bitL p k ≠ bitL q k) (h : Op.bytesLess q p = false) : bitL p k = 0 ∧ bitL q k = 1 := by
  have h1 : bitL p k ≤ 1 := bitS_le (str p) k
  have h2 : bitL q k ≤ 1 := bitS_le (str q) k
  rcases (by omega : (bitL p k = 0 ∧ bitL q k = 1) ∨ (bitL q k = 0 ∧ bitL p k = 1)) with h3 | ⟨h3, h4⟩
  · exact h3
  · rw [(less_of_bit q p k (by omega) (by omega) (fun i hi => (hs i hi).symm) h3 h4).1] at h
    cases h
theorem less_irr : ∀ l : List UInt8, Op.bytesLess l l = false
  | [] => rfl
  | x :: l => by
    have h3 : ¬ x < x := by rw [UInt8.lt_iff_toNat_lt]; omega
    rw [less_cons, less_irr l]
    simp [h3]
theorem less_asym : ∀ l m : List UInt8, Op.bytesLess l m = true → Op.bytesLess m l = false
  | [], [], h => by simp [Op.bytesLess] at h
  | [], _ :: _, _ => rfl
  | _ :: _, [], h => by simp [Op.bytesLess] at h
  | x :: l, y :: m, h => by
    rw [less_cons] at h ⊢
    simp only [Bool.or_eq_true, Bool.and_eq_true, decide_eq_true_eq, beq_iff_eq] at h
    rcases h with h | ⟨rfl, h⟩
    · have h1 := UInt8.lt_iff_toNat_lt.1 h
      have h3 : ¬ y < x := by rw [UInt8.lt_iff_toNat_lt]; omega
      have h4 : (y == x) = false := by
        rw [beq_eq_false_iff_ne]
        rintro rfl
        omega
      simp [h3, h4]
    · have h3 : ¬ x < x := by rw [UInt8.lt_iff_toNat_lt]; omega
      rw [less_asym l m h]
      simp [h3]
theorem str_list (l : List UInt8) : (str l).toList = l := by rw [ByteArray.toList_eq]; rfl
end Go.Proofs.YtioahjdojgcfdaaDoor

namespace Go.Proofs.YtioahjdojgcfdaaDoor
attribute [local irreducible] shaL

def emptyS : ByteArray := ⟨#[0]⟩
def leafS (k v : ByteArray) : ByteArray := ⟨#[1]⟩ ++ tagS 9 [k, v]
def bothS (a b : ByteArray) : ByteArray := ⟨#[2]⟩ ++ tagS 10 [a, b]
/-- the first byte of a text, or 0 -/
def headB (s : ByteArray) : UInt8 := (s.data.toList[0]?).getD 0
def leafB (s : ByteArray) : Bool := decide (s.size = 17) && (headB s == 1)
def joinN (a b : ByteArray) : ByteArray := if a = emptyS ∧ (b = emptyS ∨ leafB b = true) then b else if b = emptyS ∧ leafB a = true then a else bothS a b
abbrev PairS := ByteArray × ByteArray
/-- those whose bit there is b -/
def side (b d : Nat) (l : List PairS) : List PairS := l.filter fun x => bitS x.1 d == b
def nodeN : Nat → List PairS → Nat → ByteArray
  | _, [], _ => emptyS
  | _, [x], _ => leafS x.1 x.2
  | 0, _ :: _ :: _, _ => emptyS
  | f + 1, x :: y :: r, d => joinN (nodeN f (side 0 d (x :: y :: r)) (d + 1)) (nodeN f (side 1 d (x :: y :: r)) (d + 1))
theorem nodeN_nil (f d : Nat) : nodeN f [] d = emptyS := by cases f <;> rfl
theorem nodeN_one (f d : Nat) (x : PairS) : nodeN f [x] d = leafS x.1 x.2 := by cases f <;> rfl
theorem nodeN_more (f d : Nat) (l : List PairS) (h : 2 ≤ l.length) : nodeN (f + 1) l d = joinN (nodeN f (side 0 d l) (d + 1)) (nodeN f (side 1 d l) (d + 1)) := by
  match l, h with
  | x :: y :: r, _ => rfl
theorem nodeN_perm : ∀ (f : Nat) (l m : List PairS) (d : Nat), l.Perm m → nodeN f l d = nodeN f m d := by
  intro f
  induction f with
  | zero =>
    intro l m d h
    have hl := h.length_eq
    match l, m, h, hl with
    | [], [], _, _ => rfl
    | [x], [y], h, _ => rw [List.perm_singleton.1 h.symm]
    | x :: y :: r, x' :: y' :: r', _, _ => rfl
  | succ f ih =>
    intro l m d h
    have hl := h.length_eq
    by_cases h2 : 2 ≤ l.length
    · rw [nodeN_more f d l h2, nodeN_more f d m (by omega), ih (side 0 d l) (side 0 d m) _ (h.filter _), ih (side 1 d l) (side 1 d m) _ (h.filter _)]
    · match l, m, h, hl, h2 with
      | [], [], _, _, _ => rfl
      | [x], [y], h, _, _ => rw [List.perm_singleton.1 h.symm]
      | x :: y :: r, _, _, _, h2 => simp at h2
theorem tag16 (t : UInt8) (L : List ByteArray) : (tagS t L).size = 16 := tagS_size _ _
theorem leafS_size (k v : ByteArray) : (leafS k v).size = 17 := by unfold leafS; rw [ByteArray.size_append, tag16]; rfl
theorem bothS_size (a b : ByteArray) : (bothS a b).size = 17 := by unfold bothS; rw [ByteArray.size_append, tag16]; rfl
theorem head_app (c : UInt8) (t : ByteArray) : headB (⟨#[c]⟩ ++ t) = c := by
  unfold headB
  rw [ByteArray.data_append, Array.toList_append]
  rfl
theorem leafS_leaf (k v : ByteArray) : leafB (leafS k v) = true := by
  unfold leafB
  rw [leafS_size, leafS, head_app]
  decide
theorem bothS_leaf (a b : ByteArray) : leafB (bothS a b) = false := by
  unfold leafB
  rw [bothS_size, bothS, head_app]
  decide
theorem emptyS_leaf : leafB emptyS = false := by decide
theorem size_ne {a b : ByteArray} (h : a.size ≠ b.size) : a ≠ b := fun e => h (by rw [e])
theorem leafS_ne (k v : ByteArray) : leafS k v ≠ emptyS := size_ne (by rw [leafS_size]; decide)
theorem bothS_ne (a b : ByteArray) : bothS a b ≠ emptyS := size_ne (by rw [bothS_size]; decide)
/-- a node: empty, a leaf's, or another one -/
inductive NodeS : ByteArray → Prop
  | none : NodeS emptyS
  | leaf (k v : ByteArray) : NodeS (leafS k v)
  | both (a b : ByteArray) : NodeS (bothS a b)
theorem joinN_node {a b : ByteArray} (ha : NodeS a) (hb : NodeS b) : NodeS (joinN a b) := by
  unfold joinN
  split
  · exact hb
  · split
    · exact ha
    · exact .both a b
theorem nodeN_node : ∀ (f : Nat) (l : List PairS) (d : Nat), NodeS (nodeN f l d)
  | 0, [], _ => .none
  | 0, [x], _ => .leaf _ _
  | 0, _ :: _ :: _, _ => .none
  | f + 1, [], _ => .none
  | f + 1, [x], _ => .leaf _ _
  | f + 1, x :: y :: r, d => joinN_node (nodeN_node f _ _) (nodeN_node f _ _)
theorem NodeS.size {a : ByteArray} (h : NodeS a) : a.size ≤ 17 := by
  cases h
  · decide
  · rw [leafS_size]; exact Nat.le_refl _
  · rw [bothS_size]; exact Nat.le_refl _

/-- keys of 16 bytes, no two the same, that begin alike by d bits -/
structure Alike (d : Nat) (l : List PairS) : Prop where
  len : ∀ x ∈ l, x.1.size = 16
  one : l.Pairwise (fun x y => x.1 ≠ y.1)
  bits : ∀ x ∈ l, ∀ y ∈ l, ∀ i, i < d → bitS x.1 i = bitS y.1 i
theorem bits_key {a b : ByteArray} (ha : a.size = 16) (hb : b.size = 16) (h : ∀ i, i < 128 → bitS a i = bitS b i) : a = b := by
  have := bits_all a.data.toList b.data.toList 16 (by rw [Array.length_toList]; exact ha) (by rw [Array.length_toList]; exact hb) (fun i hi => h i (by omega))
  exact ByteArray.ext (Array.toList_inj.1 this)
theorem Alike.few {d : Nat} {l : List PairS} (h : Alike d l) (hd : 128 ≤ d) : l.length ≤ 1 := by
  match l, h with
  | [], _ => simp
  | [x], _ => simp
  | x :: y :: r, h =>
    exfalso
    have h1 := (List.pairwise_cons.1 h.one).1 y (by simp)
    exact h1 (bits_key (h.len x (by simp)) (h.len y (by simp)) (fun i hi => h.bits x (by simp) y (by simp) i (by omega)))
theorem Alike.sub {d : Nat} {l m : List PairS} (h : Alike d l) (hs : m.Sublist l) : Alike d m :=
  ⟨fun x hx => h.len x (hs.subset hx), h.one.sublist hs, fun x hx y hy => h.bits x (hs.subset hx) y (hs.subset hy)⟩
theorem Alike.side {d b : Nat} {l : List PairS} (h : Alike d l) : Alike (d + 1) (side b d l) := by
  have h1 := h.sub (List.filter_sublist (p := fun x => bitS x.1 d == b))
  refine ⟨h1.len, h1.one, fun x hx y hy i hi => ?_⟩
  by_cases hid : i < d
  · exact h1.bits x hx y hy i hid
  · obtain rfl : i = d := by omega
    have e1 := (List.mem_filter.1 hx).2
    have e2 := (List.mem_filter.1 hy).2
    simp at e1 e2
    rw [e1, e2]
theorem Alike.perm {d : Nat} {l m : List PairS} (h : Alike d l) (hp : l.Perm m) : Alike d m :=
  ⟨fun x hx => h.len x (hp.mem_iff.2 hx), (hp.pairwise_iff (fun {_ _} q => Ne.symm q)).1 h.one, fun x hx y hy => h.bits x (hp.mem_iff.2 hx) y (hp.mem_iff.2 hy)⟩
/-- the document's joining, by how many keys are on each side -/
theorem side_all (b d : Nat) (l : List PairS) : side b d (side b d l) = side b d l := by unfold side; rw [List.filter_filter]; congr 1; funext x; simp
theorem side_len (d : Nat) (l : List PairS) : (side 0 d l).length + (side 1 d l).length = l.length := by
  induction l with
  | nil => rfl
  | cons x r ih =>
    have hb := bitS_le x.1 d
    unfold side at ih ⊢
    by_cases h : bitS x.1 d = 0
    · simp [List.filter_cons, h]; omega
    · have h1 : bitS x.1 d = 1 := by omega
      simp [List.filter_cons, h1]; omega
end Go.Proofs.YtioahjdojgcfdaaDoor

namespace Go.Proofs.YtioahjdojgcfdaaDoor
open Go.RowKit

/-- w' is as w was, but for the blocks of S, and new ones -/
structure Turn (S : Nat → Prop) (w w' : World) : Prop where
  os : w'.os = w.os
  tape : w'.tape = w.tape
  output : w'.output = w.output
  size : w.heap.size ≤ w'.heap.size
  block : ∀ i, i < w.heap.size → ¬ S i → w'.heap[i]? = w.heap[i]?
/-- the blocks that were made between two worlds -/
def madeIn (w w' : World) (i : Nat) : Prop := w.heap.size ≤ i ∧ i < w'.heap.size
theorem Turn.refl (S : Nat → Prop) (w : World) : Turn S w w := ⟨rfl, rfl, rfl, Nat.le_refl _, fun _ _ _ => rfl⟩
theorem Turn.mono {S T : Nat → Prop} {w w' : World} (h : Turn S w w') (hs : ∀ i, i < w.heap.size → S i → T i) : Turn T w w' := ⟨h.os, h.tape, h.output, h.size, fun i hi hn => h.block i hi (fun q => hn (hs i hi q))⟩
theorem Turn.trans {S T : Nat → Prop} {a b c : World} (h : Turn S a b) (k : Turn T b c) (hs : ∀ i, i < a.heap.size → T i → S i) : Turn S a c :=
  ⟨k.os.trans h.os, k.tape.trans h.tape, k.output.trans h.output, Nat.le_trans h.size k.size, fun i hi hn => (k.block i (Nat.lt_of_lt_of_le hi h.size) (fun q => hn (hs i hi q))).trans (h.block i hi hn)⟩
theorem Turn.then {S : Nat → Prop} {a b c : World} (h : Turn S a b) (k : Turn S b c) : Turn S a c := h.trans k (fun _ _ q => q)
theorem Turn.grown {S : Nat → Prop} {a b c : World} (h : Turn S a b) (k : b.grownBy c none) : Turn S a c := h.then ⟨k.os, k.tape, k.output, k.size, fun i hi _ => k.block i hi (by simp)⟩
theorem Turn.of_grown {S : Nat → Prop} {a b : World} (k : a.grownBy b none) : Turn S a b := (Turn.refl S a).grown k
theorem Turn.row {S : Nat → Prop} {a b c : World} (h : Turn S a b) {row : Option Nat} (k : b.grownBy c row) (hs : ∀ i, i < a.heap.size → row = some i → S i) : Turn S a c :=
  h.trans (T := fun i => row = some i) ⟨k.os, k.tape, k.output, k.size, fun i hi hn => k.block i hi (fun e => hn e.symm)⟩ hs
theorem Turn.drew {S : Nat → Prop} {a b : World} (h : Turn S a b) : Turn S a b.drew := ⟨h.os, h.tape, h.output, h.size, h.block⟩
theorem Turn.alloc {S : Nat → Prop} {a b : World} (h : Turn S a b) (o : Obj) : Turn S a (b.alloc o) := h.grown (World.grownBy_alloc b o none)
theorem Turn.setCell {S : Nat → Prop} {a b : World} (h : Turn S a b) {k : Nat} (hk : k < a.heap.size → S k) (o : Nat) (u : Value) : Turn S a (b.setCell ⟨k, o, none⟩ u) :=
  ⟨h.os, h.tape, h.output, by rw [size_setCell]; exact h.size, fun i hi hn => by rw [heap_setCell_ne _ _ _ _ (fun e => hn (by rw [← e]; exact hk (by omega)))]; exact h.block i hi hn⟩
theorem Turn.setCells {S : Nat → Prop} {a b : World} (h : Turn S a b) {k : Nat} (hk : k < a.heap.size → S k) (o : Nat) (vs : List Value) : Turn S a (b.setCells k o vs) :=
  ⟨by rw [← h.os]; induction vs generalizing o b with | nil => rfl | cons v r ih => exact ih (b := b.setCell _ v) (h.setCell hk o v) _,
   by rw [← h.tape]; induction vs generalizing o b with | nil => rfl | cons v r ih => exact ih (b := b.setCell _ v) (h.setCell hk o v) _,
   by rw [← h.output]; induction vs generalizing o b with | nil => rfl | cons v r ih => exact ih (b := b.setCell _ v) (h.setCell hk o v) _,
   by rw [size_setCells]; exact h.size, fun i hi hn => by rw [heap_setCells_ne (fun e => hn (by rw [← e]; exact hk (by omega)))]; exact h.block i hi hn⟩
theorem Turn.below {S : Nat → Prop} {B : Nat} {w0 w w' : World} (h : Below B w0 w) (k : Turn S w w') (hB : B ≤ w.heap.size) (hs : ∀ i, i < B → ¬ S i) : Below B w0 w' :=
  ⟨k.os.trans h.os, k.tape.trans h.tape, k.output.trans h.output, Nat.le_trans h.size k.size, fun i hi => (k.block i (Nat.lt_of_lt_of_le hi hB) (hs i hi)).trans (h.block i hi)⟩
theorem Turn.cell {S : Nat → Prop} {w w' : World} (h : Turn S w w') {b : Nat} (hb : b < w.heap.size) (hn : ¬ S b) (o : Nat) : w'.cell? ⟨b, o, none⟩ = w.cell? ⟨b, o, none⟩ := World.cell?_of_block (h.block b hb hn)
theorem Turn.heap {S : Nat → Prop} {w w' : World} (h : Turn S w w') {b : Nat} {o : Obj} (hb : w.heap[b]? = some o) (hn : ¬ S b) : w'.heap[b]? = some o := by
  rw [h.block b (Array.getElem?_eq_some_iff.1 hb).1 hn]; exact hb

/-- an own row lies on, where its block does not turn -/
theorem own_turn {S : Nat → Prop} {w w' : World} {B : Nat} {e : TypeId} {size n : Nat} {v : Value} {xs : List Value} (h : w.ownsRow B e size v n xs) (k : Turn S w w') (hs : ∀ g, v.ownBlock = some g → ¬ S g) : w'.ownsRow B e size v n xs := by
  refine ⟨h.1, ?_⟩
  rcases h.2 with h' | ⟨g, cap, cur, rfl, b, hg, r⟩
  · exact .inl h'
  · exact .inr ⟨g, cap, cur, rfl, b, k.heap hg (hs g rfl), r⟩

/-- the blocks from n0 on that are none of X -/
def rest (n0 : Nat) (X : List Nat) (i : Nat) : Prop := n0 ≤ i ∧ i ∉ X
theorem Turn.inX {n0 : Nat} {X : List Nat} {w w' : World} {x : Nat} {o : Obj} (k : Turn (rest n0 X) w w') (hx : x ∈ X) (h : w.heap[x]? = some o) : w'.heap[x]? = some o := k.heap h (fun q => q.2 hx)
theorem Turn.bel {n0 : Nat} {X : List Nat} {w0 w w' : World} (k : Turn (rest n0 X) w w') (h : Below n0 w0 w) (hn : n0 ≤ w.heap.size) : Below n0 w0 w' := k.below h hn (fun i hi q => by have := q.1; omega)
theorem rest_mono {n0 : Nat} {X Y : List Nat} (h : ∀ x ∈ X, x ∈ Y) {w w' : World} (k : Turn (rest n0 Y) w w') : Turn (rest n0 X) w w' := k.mono (fun _ _ q => ⟨q.1, fun hx => q.2 (h _ hx)⟩)

end Go.Proofs.YtioahjdojgcfdaaDoor

namespace Go.Proofs.YtioahjdojgcfdaaDoor
open Go.RowKit Go.Maps

abbrev DatU := DataW Unit
def litK (k : ByteArray) : Lit := .string k.data.toList
/-- a map as read holds these pairs -/
structure IsM (D : DatU) (M : List PairS) : Prop where
  has : ∀ k : ByteArray, Maps.has D (litK k) = M.any (fun p => decide (p.1 = k))
  look : ∀ p ∈ M, ∀ zd, D.atKey (litK p.1) zd = .lit (.string p.2.data.toList)
  size : Maps.size D = M.length
  one : M.Pairwise (fun p q => p.1 ≠ q.1)
/-- pairs with one more, or another value -/
def setM (M : List PairS) (x : PairS) : List PairS := M.filter (fun p => !(decide (p.1 = x.1))) ++ [x]
theorem litK_inj {a b : ByteArray} (h : litK a = litK b) : a = b := by
  unfold litK at h
  injection h with h
  exact ByteArray.ext (Array.toList_inj.1 h)
theorem litK_ne {a b : ByteArray} (h : a ≠ b) : litK a ≠ litK b := fun e => h (litK_inj e)
theorem litK_key (k : ByteArray) : WideAt.IsKeyLit (litK k) := trivial
theorem isM_nil : IsM (.map []) [] := ⟨fun _ => rfl, fun p hp => by simp at hp, rfl, List.Pairwise.nil⟩
theorem one_split : ∀ (M : List PairS) (k : ByteArray), M.Pairwise (fun p q => p.1 ≠ q.1) → (M.filter (fun p => !(decide (p.1 = k)))).length + (if M.any (fun p => decide (p.1 = k)) then 1 else 0) = M.length
  | [], _, _ => rfl
  | x :: r, k, h => by
    obtain ⟨h1, h2⟩ := List.pairwise_cons.1 h
    have ih := one_split r k h2
    by_cases e : x.1 = k
    · have hn : r.any (fun p => decide (p.1 = k)) = false := by
        rw [List.any_eq_false]
        intro p hp q
        have : p.1 = k := by simpa using q
        exact h1 p hp (e.trans this.symm)
      rw [hn] at ih
      have e1 : (decide (x.1 = k)) = true := by simpa using e
      simp only [List.filter_cons, e1, List.any_cons, Bool.true_or, Bool.not_true, if_true, List.length_cons] at ih ⊢
      simp at ih ⊢
      omega
    · have e1 : (decide (x.1 = k)) = false := by simpa using e
      simp only [List.filter_cons, e1, List.any_cons, Bool.false_or, Bool.not_false, if_true, List.length_cons]
      omega
theorem setM_one {M : List PairS} (h : M.Pairwise (fun p q => p.1 ≠ q.1)) (x : PairS) : (setM M x).Pairwise (fun p q => p.1 ≠ q.1) := by
  unfold setM
  rw [List.pairwise_append]
  refine ⟨h.filter _, List.pairwise_singleton _ _, fun p hp q hq => ?_⟩
  rw [List.mem_singleton.1 hq]
  have := (List.mem_filter.1 hp).2
  simpa using this
theorem setM_any (M : List PairS) (x : PairS) (k : ByteArray) : (setM M x).any (fun p => decide (p.1 = k)) = (M.any (fun p => decide (p.1 = k)) || (decide (x.1 = k))) := by
  unfold setM
  rw [List.any_append, List.any_filter]
  by_cases e : x.1 = k
  · have e1 : (decide (x.1 = k)) = true := by simpa using e
    simp [e1]
  · have e1 : (decide (x.1 = k)) = false := by simpa using e
    simp only [List.any_cons, List.any_nil, e1, Bool.or_false]
    congr 1
    funext p
    by_cases e2 : p.1 = k
    · have e3 : (decide (p.1 = x.1)) = false := by simp; exact fun q => e (q.symm.trans e2)
      rw [e3]; simp
    · have e3 : (decide (p.1 = k)) = false := by simpa using e2
      rw [e3]; simp
theorem IsM.put {D : DatU} {M : List PairS} (h : IsM D M) (ht : Tidy D) (x : PairS) : IsM (D.put (litK x.1) (.lit (.string x.2.data.toList))) (setM M x) := by
  have hm := ht.isMap
  refine ⟨fun k => ?_, fun p hp zd => ?_, ?_, setM_one h.one x⟩
  · rw [setM_any]
    by_cases e : k = x.1
    · subst e
      rw [has_put_same hm (litK_key _)]
      simp
    · rw [has_put_other (litK_ne e), h.has]
      have e1 : (decide (x.1 = k)) = false := by simp; exact fun q => e q.symm
      rw [e1, Bool.or_false]
  · rcases List.mem_append.1 hp with hp | hp
    · have h1 := List.mem_filter.1 hp
      have h2 : p.1 ≠ x.1 := by have := h1.2; simpa using this
      rw [atKey_put_other (litK_ne h2)]
      exact h.look p h1.1 zd
    · rw [List.mem_singleton.1 hp]
      exact atKey_put_same hm (litK_key _) _ _
  · have h1 := one_split M x.1 h.one
    have h2 := size_put ht (k := litK x.1) (.lit (.string x.2.data.toList))
    rw [h.has, h.size] at h2
    rw [h2]
    unfold setM
    rw [List.length_append, List.length_singleton]
    cases hh : M.any (fun p => decide (p.1 = x.1)) with
    | true => rw [hh, if_pos rfl] at h1; rw [if_pos rfl]; omega
    | false => rw [hh, if_neg (by decide)] at h1; rw [if_neg (by decide)]; omega
theorem ownsMap_exact {P : Program} {k : TypeId} {R : Value → Option (DatU × List MemPlace)} {w : World} {b n : Nat} {D : DatU} (h : w.ownsMap P k R b n D) : w.ownsMap P k R b (Maps.size D) D := by
  obtain ⟨es, clock, hb, F, hs, rfl⟩ := h
  exact ⟨es, clock, hb, F, by simp [Maps.size, length_sorted], rfl⟩
theorem plainElem_string_inv {P : Program} {e : TypeId} (he : P.underlying e = some .string) {v : Value} {z : DatU × List MemPlace} (h : plainElem P e v = some z) : ∃ s : ByteArray, v = .string s ∧ z = (.lit (.string s.data.toList), []) ∧ s.size ≤ maxLen := by
  unfold plainElem at h
  rw [he] at h
  cases v <;> simp at h
  obtain ⟨h1, rfl⟩ := h
  exact ⟨_, rfl, rfl, h1⟩
noncomputable def strR : Value → Option (DatU × List MemPlace) := plainElem Tryd.prog 9
theorem strK : Keyed Tryd.prog 9 := string_keyed Tryd.underlying9
theorem strR_mk (s : ByteArray) (h : s.size ≤ maxLen) : strR (.string s) = some (.lit (.string s.data.toList), []) := plainElem_string Tryd.underlying9 h
theorem strR_inv {v : Value} {z : DatU × List MemPlace} (h : strR v = some z) : ∃ s : ByteArray, v = .string s ∧ z = (.lit (.string s.data.toList), []) ∧ s.size ≤ maxLen := plainElem_string_inv Tryd.underlying9 h
theorem keyV (k : ByteArray) (h : k.size ≤ maxLen) : keyOf Tryd.prog 9 (.string k) = some (litK k) := WideMaps.keyOf_string_mk Tryd.underlying9 h
/-- block b is a tree of the pairs M; its blocks lie from n0 on, none of them is one of X -/
structure TreeAt (n0 : Nat) (X : List Nat) (w : World) (b : Nat) (M : List PairS) (mv : Value) : Prop where
  blk : w.heap[b]? = some (.cells #[mv] 131 (0, 0))
  own : n0 ≤ b ∧ b ∉ X
  map : (mv = .map none ∧ M = []) ∨ ∃ mb D, mv = .map (some mb) ∧ n0 ≤ mb ∧ mb ∉ X ∧ w.ownsMap Tryd.prog 9 strR mb M.length D ∧ IsM D M
def TreeK (n0 : Nat) (X : List Nat) (w : World) (b : Nat) (M : List PairS) : Prop := ∃ mv, TreeAt n0 X w b M mv
theorem TreeAt.lt {n0 : Nat} {X : List Nat} {w : World} {b : Nat} {M : List PairS} {mv : Value} (h : TreeAt n0 X w b M mv) : b < w.heap.size := (Array.getElem?_eq_some_iff.1 h.blk).1
theorem TreeAt.one {n0 : Nat} {X : List Nat} {w : World} {b : Nat} {M : List PairS} {mv : Value} (h : TreeAt n0 X w b M mv) : M.Pairwise (fun p q => p.1 ≠ q.1) := by
  rcases h.map with ⟨_, rfl⟩ | ⟨_, _, _, _, _, _, hm⟩
  · exact List.Pairwise.nil
  · exact hm.one
/-- blocks of the caller's own turn, and new ones join them -/
theorem TreeK.turn {n0 : Nat} {X Y : List Nat} {S : Nat → Prop} {w w' : World} {b : Nat} {M : List PairS} (h : TreeK n0 X w b M) (k : Turn S w w') (hS : ∀ i, i < w.heap.size → S i → i ∈ X) (hY : ∀ i ∈ Y, i ∈ X ∨ w.heap.size ≤ i) : TreeK n0 Y w' b M := by
  obtain ⟨mv, hb, ho, hm⟩ := h
  have hbl : b < w.heap.size := (Array.getElem?_eq_some_iff.1 hb).1
  refine ⟨mv, k.heap hb (fun q => ho.2 (hS b hbl q)), ⟨ho.1, fun q => ?_⟩, ?_⟩
  · rcases hY b q with q | q
    · exact ho.2 q
    · omega
  · rcases hm with hm | ⟨mb, D, rfl, h1, h2, h3, h4⟩
    · exact .inl hm
    · have hml := h3.lt
      refine .inr ⟨mb, D, rfl, h1, fun q => ?_, ?_, h4⟩
      · rcases hY mb q with q | q
        · exact h2 q
        · omega
      · obtain ⟨es, clock, hb3, r⟩ := h3
        exact ⟨es, clock, k.heap hb3 (fun q => h2 (hS mb hml q)), r⟩
theorem TreeK.grown {n0 : Nat} {X : List Nat} {w w' : World} {b : Nat} {M : List PairS} (h : TreeK n0 X w b M) (k : w.grownBy w' none) : TreeK n0 X w' b M :=
  h.turn (S := fun _ => False) (Turn.of_grown k) (fun _ _ q => q.elim) (fun _ hi => .inl hi)
theorem TreeK.more {n0 : Nat} {X Y : List Nat} {w w' : World} {b : Nat} {M : List PairS} (h : TreeK n0 X w b M) (k : w.grownBy w' none) (hY : ∀ i ∈ Y, i ∈ X ∨ w.heap.size ≤ i) : TreeK n0 Y w' b M :=
  h.turn (S := fun _ => False) (Turn.of_grown k) (fun _ _ q => q.elim) hY
theorem TreeK.lt {n0 : Nat} {X : List Nat} {w : World} {b : Nat} {M : List PairS} (h : TreeK n0 X w b M) : b < w.heap.size := by obtain ⟨_, h⟩ := h; exact h.lt
theorem TreeK.one {n0 : Nat} {X : List Nat} {w : World} {b : Nat} {M : List PairS} (h : TreeK n0 X w b M) : M.Pairwise (fun p q => p.1 ≠ q.1) := by obtain ⟨_, h⟩ := h; exact h.one
/-- the value of a key, or the empty text -/
def valM (M : List PairS) (k : ByteArray) : ByteArray := ((M.find? (fun p => decide (p.1 = k))).map Prod.snd).getD ⟨#[]⟩
def hasM (M : List PairS) (k : ByteArray) : Bool := M.any (fun p => decide (p.1 = k))
theorem valM_mem : ∀ {M : List PairS}, M.Pairwise (fun p q => p.1 ≠ q.1) → ∀ x ∈ M, valM M x.1 = x.2
  | [], _, x, hx => by simp at hx
  | y :: r, h, x, hx => by
    obtain ⟨h1, h2⟩ := List.pairwise_cons.1 h
    unfold valM
    rcases List.mem_cons.1 hx with rfl | hx'
    · simp
    · have hne : (decide (y.1 = x.1)) = false := by simpa using h1 x hx'
      rw [List.find?_cons, hne]
      exact valM_mem h2 x hx'
theorem valM_none {M : List PairS} {k : ByteArray} (h : hasM M k = false) : valM M k = ⟨#[]⟩ := by
  unfold valM
  unfold hasM at h
  rw [List.find?_eq_none.2]
  · rfl
  · intro x hx
    have := List.any_eq_false.1 h x hx
    simpa using this
theorem IsM.val {D : DatU} {M : List PairS} (h : IsM D M) (k : ByteArray) : D.atKey (litK k) (.lit (.string [])) = .lit (.string (valM M k).data.toList) := by
  cases hh : hasM M k with
  | true =>
    obtain ⟨p, hp, hk⟩ := List.any_eq_true.1 hh
    obtain rfl : p.1 = k := by simpa using hk
    rw [h.look p hp, valM_mem h.one p hp]
  | false =>
    rw [valM_none hh, atKey_of_not_has (by rw [h.has]; exact hh)]
end Go.Proofs.YtioahjdojgcfdaaDoor

namespace Go.Proofs.YtioahjdojgcfdaaDoor
open Go.RowKit Go.Maps

theorem infoU8P : (Tryd.prog.info? 5).map (fun i => (i.zero, i.size, i.bytes)) = some (some (.int .u8 0), 1, 1) := by kernel_rfl
/-- a key of two small numbers -/
def keyL14 (a b : UInt8) : List UInt8 := [a, 0, b, 0, 0, 0, 0, 0, 0, 0, 0, 0, 0, 0, 0, 0]
def keyS14 (a b : UInt8) : ByteArray := str (keyL14 a b)
theorem keyS14_size (a b : UInt8) : (keyS14 a b).size = 16 := rfl
end Go.Proofs.YtioahjdojgcfdaaDoor

namespace Go.Proofs.YtioahjdojgcfdaaDoor
open Go.RowKit Go.Maps

theorem conv_bytes (k : ByteArray) (w : World) : (convert 9 57 (.string k)).run Tryd.prog w = .ok (.slice (some ⟨w.heap.size, 0, none⟩) k.size (grownCap w k.size 0 5)) (Lib.bytesWorld w 5 k) :=
  Lib.run_convert_string_bytes w 9 57 5 k (u := .string) Tryd.underlying9 Tryd.underlying57 Tryd.underlying5
theorem grown_bytes (k : ByteArray) (w : World) (e : TypeId) : w.grownBy (Lib.bytesWorld w e k) none := by
  have h := grownBy_alloc' (grownBy_drew (World.grownBy.refl w none)) (.cells (Lib.bytesCells w e k) e)
  refine ⟨h.os, h.tape, h.output, by rw [Lib.bytesWorld_size]; omega, fun i hi _ => Lib.bytesWorld_at_old w e k i hi⟩
theorem bitL_flip (l : List UInt8) (q r c : Nat) (hq : q < l.length) (hr : r < 8) (hc : ((l[q]?).getD 0).toNat = c) (i : Nat) :
    bitL (l.set q (UInt8.ofNat (c ^^^ 2 ^ (7 - r)))) i = if i = 8 * q + r then 1 - bitL l i else bitL l i := by
  have hp : 2 ^ (7 - r) < 256 := Nat.lt_of_le_of_lt (Nat.pow_le_pow_right (by decide) (by omega : 7 - r ≤ 7)) (by decide)
  have hc8 : c < 256 := by rw [← hc]; exact UInt8.toNat_lt _
  have hor : c ^^^ 2 ^ (7 - r) < 256 := Nat.xor_lt_two_pow (n := 8) hc8 hp
  unfold bitL
  by_cases hiq : i / 8 = q
  · rw [hiq, List.getElem?_set_self hq, Option.getD_some, UInt8.toNat_ofNat_of_lt' hor, hc, bit_test, bit_test, Nat.testBit_xor, Nat.testBit_two_pow]
    by_cases hir : i % 8 = r
    · rw [if_pos (by omega), hir]
      cases c.testBit (7 - r) <;> simp
    · rw [if_neg (by omega)]
      have : decide (7 - r = 7 - i % 8) = false := by simp; omega
      rw [this]
      simp
  · rw [List.getElem?_set_ne (fun e => hiq e.symm), if_neg (by omega)]
theorem half_pow (r : Nat) (h : r < 8) : (128 : Int) / 2 ^ r = ((2 ^ (7 - r) : Nat) : Int) := by
  match r, h with
  | 0, _ | 1, _ | 2, _ | 3, _ | 4, _ | 5, _ | 6, _ | 7, _ => rfl
theorem flip_conv (k : ByteArray) (hk : k.size = 16) (w : World) (KB q : Nat) (hKB : w.heap.size = KB) (u : UInt8) (C : Nat) (W3 : World) (hW : W3.heap = ((Lib.bytesWorld w 5 k).setCell ⟨KB, q, none⟩ (.int .u8 u.toNat)).heap) :
    (convert 57 9 (.slice (some ⟨KB, 0, none⟩) 16 C)).run Tryd.prog W3 = .ok (.string (str (k.data.toList.set q u))) W3 := by
  subst hKB
  have h16 : (k.data.toList.set q u).length = 16 := by rw [List.length_set, Array.length_toList]; exact hk
  have h := run_convert_bytes_back (P := Tryd.prog) W3 57 9 5 ⟨w.heap.size, 0, none⟩ C (k.data.toList.set q u) Tryd.underlying57 Tryd.underlying5 Tryd.underlying9 (fun j hj => by
    have hb := Lib.bytesWorld_at_new w 5 k
    have hj2 : j < k.size := by omega
    have hc := Lib.bytesWorld_cell w 5 k j hj2
    rw [cell_of hb] at hc
    have hs := cell_of (heap_setCell hb q (.int .u8 u.toNat)) j
    have hW3 : W3.cell? ⟨w.heap.size, j, none⟩ = ((Lib.bytesWorld w 5 k).setCell ⟨w.heap.size, q, none⟩ (.int .u8 u.toNat)).cell? ⟨w.heap.size, j, none⟩ := by unfold World.cell?; rw [hW]
    rw [show (⟨w.heap.size, 0, none⟩ : Addr).add j = ⟨w.heap.size, j, none⟩ from (by unfold Addr.add; split <;> simp_all), hW3, hs, Array.getElem?_setIfInBounds]
    have hsz : j < (Lib.bytesCells w 5 k).size := by
      rcases Nat.lt_or_ge j (Lib.bytesCells w 5 k).size with h | h
      · exact h
      · rw [Array.getElem?_eq_none h] at hc; cases hc
    by_cases e : q = j
    · subst e
      simp [hsz]
    · have hl : j < k.data.toList.length := by rw [Array.length_toList]; exact hj2
      rw [if_neg e, hc, List.getElem_set_ne e]
      simp [List.getD, List.getElem?_eq_getElem hl])
  rw [h16] at h
  exact h
end Go.Proofs.YtioahjdojgcfdaaDoor

namespace Go.Proofs.YtioahjdojgcfdaaDoor
open Go.ChangeShapes Go.WideShapes Go.ChangeAt Go.RowKit Go.Lib Go.Shelf

/-- a listed array of 32-bit numbers, cell by cell -/
theorem u32_of_reads {w : World} {name : String} {g t : Nat} {n : Nat} (L : List Nat) (hL : L.length = n) (hn : Tryd.prog.globalNamed name = some g) (hy : (Tryd.prog.globals[g]?).map (·.type) = some t)
    (hu : Tryd.prog.underlying t = some (.array n 40)) (hc : Tryd.prog.cellsOf 40 = 1)
    (h : VarReads Tryd.prog w name (.agg (L.map fun n : Nat => .lit (.int .u32 (n : Int))))) (i : Nat) (hi : i < n) : w.cell? ⟨g, i, none⟩ = some (.int .u32 (L.getD i 0 : Nat)) := by
  obtain ⟨g', t', cs, fuel, p, hg, hty, hvar, hd⟩ := h
  obtain rfl := Option.some.inj (hn.symm.trans hg)
  obtain rfl := Option.some.inj (hy.symm.trans hty)
  obtain ⟨fuel', d, q, hdi, he⟩ := array_elem hu hd i hi
  rw [hc] at he
  obtain ⟨z, e0, x0, _⟩ := DataW.trod_int Tryd.underlying40 he
  have hd2 : d = .lit (.int .u32 (L.getD i 0 : Nat)) := by
    have hlt : i < L.length := by omega
    rw [List.getElem?_map, List.getElem?_eq_getElem hlt] at hdi
    rw [List.getD_eq_getElem?_getD, List.getElem?_eq_getElem hlt]
    exact (Option.some.inj hdi).symm
  rw [hd2] at x0
  rw [World.var?_cell hn hvar i]
  have := congrArg (fun l : List Value => l[0]?) e0
  simp [List.getElem?_take, List.getElem?_drop] at this
  rw [this]
  simp only [Prod.mk.injEq, DataW.lit.injEq, Lit.int.injEq, true_and] at x0
  rw [x0.1]

theorem start_is : (Rows.laid_plumbob_sha_start : DataW Unit) = .agg (start.list.map fun n : Nat => .lit (.int .u32 (n : Int))) := by kernel_rfl
theorem roots_is : (Rows.laid_plumbob_sha_roots : DataW Unit) = .agg (rootsL.map fun n : Nat => .lit (.int .u32 (n : Int))) := by kernel_rfl
theorem nStart : Tryd.prog.globalNamed "plumbob/sha.start" = some 0 := by kernel_rfl
theorem yStart : (Tryd.prog.globals[0]?).map (·.type) = some 172 := by kernel_rfl
theorem nRoots : Tryd.prog.globalNamed "plumbob/sha.roots" = some 1 := by kernel_rfl
theorem yRoots : (Tryd.prog.globals[1]?).map (·.type) = some 190 := by kernel_rfl
theorem cU32 : Tryd.prog.cellsOf 40 = 1 := by kernel_rfl
theorem shaReady_of_laid {w : World} (h : laidMet Tryd.prog [("plumbob/sha.start", Rows.laid_plumbob_sha_start), ("plumbob/sha.roots", Rows.laid_plumbob_sha_roots)] w) : ShaReady w := by
  have h1 := Lib.laidMet.reads h (.head _)
  have h2 := Lib.laidMet.reads h (.tail _ (.head _))
  rw [start_is] at h1
  rw [roots_is] at h2
  refine ⟨fun j v hv => ?_, fun i hi => u32_of_reads rootsL rfl nRoots yRoots Tryd.underlying190 cU32 h2 i hi⟩
  have hj : j < 8 := by
    have := (List.getElem?_eq_some_iff.1 hv).1
    rwa [u32s_length, St.list_length] at this
  rw [Nat.zero_add, u32_of_reads start.list rfl nStart yStart Tryd.underlying172 cU32 h1 j hj, ← hv, u32s_at _ _ (by rw [St.list_length]; exact hj)]

/-- the settled world, the two variables holding what their texts lay -/
noncomputable def shaWorld (os : Os) : World :=
  let w0 := World.holding Tryd.prog os ⟨#[], #[], []⟩
  let put (h : Array Obj) (g : Nat) (cs : Array Value) : Array Obj := h.modify g fun
    | .cells _ t frozen => .cells cs t frozen
    | o => o
  let h1 := put w0.heap 0 (u32s start.list).toArray
  let h2 := put h1 1 (u32s rootsL).toArray
  { w0 with heap := h2 }
theorem sha_met (os : Os) (args : Array Value) : laidMet Tryd.prog [("plumbob/sha.start", Rows.laid_plumbob_sha_start), ("plumbob/sha.roots", Rows.laid_plumbob_sha_roots)] ((shaWorld os).forCall (fun _ _ => 0) ⟨#[], args, []⟩).memory :=
  (LaidIn.of_run (l := [("plumbob/sha.start", Rows.laid_plumbob_sha_start), ("plumbob/sha.roots", Rows.laid_plumbob_sha_roots)]) [0, 1] 8 (by kernel_rfl) (by kernel_rfl) (by kernel_rfl) (by kernel_rfl)).met
theorem own : ownKnob Tryd.prog.godebug = none := by kernel_rfl
end Go.Proofs.YtioahjdojgcfdaaDoor

namespace Go.Proofs.YtioahjdojgcfdaaDoor
open Go.RowKit Go.ChangeShapes Go.WideShapes

theorem cell_plain' {w : World} {a : Addr} {n : Nat} {v : Value} (h : w.cell? (a.add n) = some v) : w.cell? ⟨a.block, a.off + n, none⟩ = some v := by
  have hs := World.cell?_spot h
  obtain ⟨b, o, sp⟩ := a
  by_cases hn : n = 0
  · subst hn
    have : sp = none := by simpa [Addr.add] using hs
    subst this
    simpa [Addr.add] using h
  · simpa [Addr.add, hn] using h

section
variable {H : Type} {enc : TypeId × Value → H} {P : Program} {w : World} {base : Nat} {spare : Nat → Bool} {held : Bool}
def byteOf : Value → UInt8 | .int _ n => UInt8.ofNat n.toNat | _ => 0
/-- an array of bytes -/
theorem open_byte_array {r : Reach} {b0 : Nat} {t e : TypeId} {n : Nat} {v : Value} {d : DataW H} {p : List MemPlace} (hu : P.underlying t = some (.array n e)) (he : P.underlying e = some (.int .u8)) (hce : P.cellsOf e = 1) (hct : P.cellsOf t = n)
    (hval : Value.okWide P w r b0 t v) (h : DataW.Trod enc P w base spare held t v d p) : ∃ l : List UInt8, l.length = n ∧ v = .agg (bytesV l).toArray := by
  simp only [Value.okWide, hu] at hval
  obtain ⟨cs, rfl, hsz, -⟩ := hval
  obtain ⟨fuel, hf⟩ := h
  obtain ⟨xs, m, rfl, hx, hcl, hxl, hat⟩ := DataW.trod_array hu hf
  have hcs : cs.toList.length = n := by rw [← hct]; simpa using hsz
  refine ⟨cs.toList.map byteOf, by simpa using hcs, ?_⟩
  congr 1
  apply Array.toList_inj.1
  apply List.ext_getElem (by simp [bytesV])
  intro i h1 h2
  have hi : i < n := by omega
  have h3 := hat i hi
  have hxi : xs[i]? = some (xs[i]'(by omega)) := List.getElem?_eq_getElem (by omega)
  have h4 : ((Value.agg cs).cells.toList.drop (i * P.cellsOf e)).take (P.cellsOf e) = [cs.toList[i]] := by
    rw [hce, Nat.mul_one]
    show (cs.toList.drop i).take 1 = _
    rw [List.drop_eq_getElem_cons (by omega)]
    rfl
  rw [h4, hxi] at h3
  obtain ⟨a, ea, -, wa⟩ := DataW.trod_int he h3
  simp only [List.cons.injEq, and_true] at ea
  have hb : 0 ≤ a ∧ a ≤ 255 := by simpa [Lit.wf, IntKind.min, IntKind.max, IntKind.signed, IntKind.bits] using wa
  simp only [bytesV, List.getElem_map, List.getElem_toArray, ea, byteOf]
  congr 1
  simp
  omega
/-- a slice of integers: nil, or cells -/
theorem open_int_slice {t e : TypeId} {a0 : Option Addr} {len cap : Nat} {d : DataW H} {p : List MemPlace} (ht : P.underlying t = some (.slice e)) (he : P.underlying e = some (.int .i64)) (hc : P.cellsOf e = 1)
    (h : DataW.Trod enc P w base spare held t (.slice a0 len cap) d p) : ∃ L : List Int, L.length = len ∧ IntsAt w (.slice a0 len cap) L ∧ len ≤ cap ∧ cap ≤ maxLen ∧ ∀ x ∈ L, -9223372036854775808 ≤ x ∧ x ≤ 9223372036854775807 := by
  obtain ⟨fuel, hf⟩ := h
  rcases open_ints ht he hc hf with ⟨hcs, hx⟩ | ⟨a, len', cap', zs, hcs, _, hl, hm, hz, hx, hcell, hws⟩
  · have hv : Value.slice a0 len cap = .slice none 0 0 := by simpa [Value.cells] using hcs
    cases hv
    exact ⟨[], rfl, IntsAt.nil _ _ _, Nat.le_refl _, by unfold maxLen; omega, by simp⟩
  · have hv : Value.slice a0 len cap = .slice (some a) len' cap' := by simpa [Value.cells] using hcs
    cases hv
    have hls : len ≤ zs.length := by rw [hz]; split <;> omega
    have hlen : (zs.take len).length = len := by simp; omega
    refine ⟨zs.take len, hlen, ⟨some a, cap, by rw [hlen], fun i hi => ?_⟩, hl, hm, fun x hx => ?_⟩
    · have hc' := hcell i (by omega)
      have h00 := World.cell?_spot (hcell 0 (by omega))
      obtain ⟨g, o, sp⟩ := a
      obtain rfl : sp = none := by simpa [Addr.add] using h00
      refine ⟨g, o, rfl, ?_⟩
      rw [cell_plain' hc', List.getElem_take, List.getD_eq_getElem?_getD, List.getElem?_eq_getElem (by omega)]
      rfl
    · have := hws x (List.mem_of_mem_take hx)
      simpa [Lit.wf, IntKind.min, IntKind.max, IntKind.signed, IntKind.bits] using this
/-- an array of integers -/
theorem open_int_array {r : Reach} {b0 : Nat} {t e : TypeId} {n : Nat} {k : IntKind} {v : Value} {d : DataW H} {p : List MemPlace} (hu : P.underlying t = some (.array n e)) (he : P.underlying e = some (.int k)) (hce : P.cellsOf e = 1) (hct : P.cellsOf t = n)
    (hval : Value.okWide P w r b0 t v) (h : DataW.Trod enc P w base spare held t v d p) : ∃ l : List Int, l.length = n ∧ (∀ x ∈ l, (Lit.int k x).wf = true) ∧ v = .agg (l.map (Value.int k)).toArray := by
  simp only [Value.okWide, hu] at hval
  obtain ⟨cs, rfl, hsz, -⟩ := hval
  obtain ⟨fuel, hf⟩ := h
  obtain ⟨xs, m, rfl, hx, hcl, hxl, hat⟩ := DataW.trod_array hu hf
  have hcs : cs.toList.length = n := by rw [← hct]; simpa using hsz
  have each : ∀ i (hi : i < n), ∃ a, cs.toList[i]'(by omega) = .int k a ∧ (Lit.int k a).wf = true := by
    intro i hi
    have h3 := hat i hi
    have hxi : xs[i]? = some (xs[i]'(by omega)) := List.getElem?_eq_getElem (by omega)
    have h4 : ((Value.agg cs).cells.toList.drop (i * P.cellsOf e)).take (P.cellsOf e) = [cs.toList[i]'(by omega)] := by
      rw [hce, Nat.mul_one]
      show (cs.toList.drop i).take 1 = _
      rw [List.drop_eq_getElem_cons (by omega)]
      rfl
    rw [h4, hxi] at h3
    obtain ⟨a, ea, -, wa⟩ := DataW.trod_int he h3
    simp only [List.cons.injEq, and_true] at ea
    exact ⟨a, ea, wa⟩
  refine ⟨cs.toList.map intOf, by simpa using hcs, ?_, ?_⟩
  · intro x hx
    obtain ⟨v, hv, rfl⟩ := List.mem_map.1 hx
    obtain ⟨i, hi, rfl⟩ := List.getElem_of_mem hv
    obtain ⟨a, ea, wa⟩ := each i (by omega)
    rw [ea]
    exact wa
  · congr 1
    apply Array.toList_inj.1
    apply List.ext_getElem (by simp)
    intro i h1 h2
    obtain ⟨a, ea, wa⟩ := each i (by omega)
    simp only [List.getElem_map, ea, intOf]
end
end Go.Proofs.YtioahjdojgcfdaaDoor

namespace Go.Proofs.YtioahjdojgcfdaaDoor
open Go.ChangeShapes Go.WideShapes Go.ChangeAt Go.RowKit

variable {H : Type} {enc : TypeId × Value → H} {P : Program}

/-- The row's post where nothing that was there has turned ('again' is false: nothing is asked of what is frozen). -/
theorem post_of_below {f : Func} {s : ChangeSpec} {apart fresh handsOn : Bool} {W W' : World} {args : Array Value} {v : Value} {ds gs : List (DataW H)} {before pa pv : List MemPlace}
    (hW : DataW.Whole enc P f.params.toList s.vars apart W args.toList ds gs before)
    (hres : ∀ (b : Nat) (sp : Nat → Bool) (hd : Bool), DataW.TrodAll enc P W' b sp hd f.resultTypes.toList (v.resultList f.resultTypes.size) (s.fn H (ds ++ gs)).results [])
    (hargs : ∀ sp : Nat → Bool, (∀ p ∈ before, sp p.block = true) → DataW.TrodAll enc P W' 0 sp true f.params.toList args.toList (s.fn H (ds ++ gs)).args pa)
    (hvars : ∀ sp : Nat → Bool, (∀ p ∈ before, sp p.block = true) → DataW.TrodVars enc P W' sp s.vars (s.fn H (ds ++ gs)).vars pv)
    (hps : before = pa ++ pv) (hk : Below W.heap.size W W') :
    s.post enc P f apart fresh handsOn false W args v W' := by
  have hold : ∀ p ∈ before, (fun b => decide (b < W.heap.size)) p.block = true := fun p hp => by simpa using hW.lt p hp
  refine ⟨ds, gs, before, [], pa, pv, hW, hres _ _ _, hargs _ hold, hvars _ hold, World.keptBut_mono (fun p hp => ⟨hp, ?_⟩) (hk.frame (· ∈ before)), fun h => by cases h⟩
  rw [hps, List.mem_append] at hp
  exact Or.inr hp

/-- The same, what was handed in being read again by 'Below.trod'. -/
theorem post_of_below_at {f : Func} {s : ChangeSpec} {apart fresh handsOn : Bool} {W W' : World} {args : Array Value} {v : Value} {ds gs : List (DataW H)} {before pa pv : List MemPlace}
    (hW : DataW.Whole enc P f.params.toList s.vars apart W args.toList ds gs before)
    (hres : ∀ (b : Nat) (sp : Nat → Bool) (hd : Bool), DataW.TrodAll enc P W' b sp hd f.resultTypes.toList (v.resultList f.resultTypes.size) (s.fn H (ds ++ gs)).results [])
    (hargs : DataW.TrodAll enc P W' 0 (fun b => decide (b < W.heap.size)) true f.params.toList args.toList (s.fn H (ds ++ gs)).args pa)
    (hvars : DataW.TrodVars enc P W' (fun b => decide (b < W.heap.size)) s.vars (s.fn H (ds ++ gs)).vars pv)
    (hps : before = pa ++ pv) (hk : Below W.heap.size W W') :
    s.post enc P f apart fresh handsOn false W args v W' := by
  refine ⟨ds, gs, before, [], pa, pv, hW, hres _ _ _, hargs, hvars, World.keptBut_mono (fun p hp => ⟨hp, ?_⟩) (hk.frame (· ∈ before)), fun h => by cases h⟩
  rw [hps, List.mem_append] at hp
  exact Or.inr hp
end Go.Proofs.YtioahjdojgcfdaaDoor
