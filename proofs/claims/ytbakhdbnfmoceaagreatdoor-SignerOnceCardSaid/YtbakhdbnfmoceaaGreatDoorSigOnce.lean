/- A torn record of an index is no record: no proper beginning of it, with noughts behind, has its own tag (numbers that the kernel works out: 20 s). For SignerOnce: readS_torn, turn_mix. · What a book tells of the states of SignerOnce's sectors: book_state, st_next. · A reservation from a state of SignerOnce: it leaves one again. · Parts of SignerOnce's walk: Twice; a disk's calls beneath a signer. · The states of SignerOnce's loop. No walk. -/
import Derived.Test.YtbakhdbnfmoceaaGreatDoorShaNum
import Derived.Test.YtbakhdbnfmoceaaGreatDoorSigAll
import Derived.Test.YtbakhdbnfmoceaaGreatDoorSecFuse
import Derived.Test.YtbakhdbnfmoceaaGreatDoorSecKSO
import Derived.Test.YtbakhdbnfmoceaaGreatDoorInts
namespace Go.Proofs.YtbakhdbnfmoceaaGreatDoor
open Go.RowKit
attribute [local irreducible] shaL
noncomputable def bodyN (j : Nat) : Nat :=
  ((((1 + j / 4) * 65536 + j % 4) * 16777216 + 258) * 18446744073709551616 + tagF 7 [(1 + j / 4, 4), (j % 4, 2), (j + 1, 2)] / 18446744073709551616) * 65536 + (j + 1)
noncomputable def preN (j t : Nat) : Nat := bodyN j * 256 ^ 37 / 256 ^ (56 - t) * 256 ^ (56 - t)
noncomputable def tornOk : Bool := (List.range 8).all fun j => (List.range 57).all fun t => Nat.blt 0 (tagF 8 [(preN j t, 56)] / 18446744073709551616)
theorem torn_ok : tornOk = true := by decide +kernel
/-- the sector of record j + 1 -/
def secJ (j : Nat) : ByteArray := secS (1 + j / 4) (j % 4) (idxS (j + 1)) 0
def mixL (j t : Nat) : List UInt8 := (secJ j).data.toList.take t ++ List.replicate (64 - t) 0
theorem numB_take (l : List UInt8) (t : Nat) : numB (l.take t) = numB l / 256 ^ (l.length - t) := by
  have e : numB l = numB (l.take t) * 256 ^ (l.length - t) + numB (l.drop t) := by
    have := numB_append (l.take t) (l.drop t)
    rw [List.take_append_drop] at this
    rw [this, List.length_drop]
  have hlt : numB (l.drop t) < 256 ^ (l.length - t) := by
    have := numB_be (numB (l.drop t)) (l.drop t).length
    rw [be_numB, List.length_drop] at this
    rw [this]
    exact Nat.mod_lt _ (Nat.pow_pos (by decide))
  rw [e, Nat.add_comm, Nat.add_mul_div_right _ _ (Nat.pow_pos (by decide)), Nat.div_eq_of_lt hlt, Nat.zero_add]
theorem readS_tag (turn num : Nat) (x : ByteArray) (R : List ByteArray) (s : ByteArray) (h : readS turn num (x :: R) = some s) : x = secS turn num s 0 := by
  rw [readS_cons] at h
  split at h
  · cases h
  · split at h
    · cases h
    · split at h
      · cases h
      · split at h
        · rename_i h4
          cases h
          have hp := partsN_pos (str (gatherL ((x :: R).take (byteAt x 7)))).size
          obtain ⟨k, hk⟩ : ∃ k, byteAt x 7 = k + 1 := by
            have := congrArg List.length h4
            rw [nextS_length, List.length_take] at this
            exact ⟨byteAt x 7 - 1, by omega⟩
          have h5 := congrArg (fun l => l[0]?) h4
          simp only [nextS, nextK, List.getElem?_map] at h5
          rw [List.getElem?_range (by omega), hk] at h5
          simp at h5
          rw [hk]
          simpa using h5.symm
        · cases h
/-- a sector's tag is that of its first 56 bytes -/
theorem secS_tag (turn num : Nat) (s : ByteArray) (i : Nat) : (secS turn num s i).data.toList = (secS turn num s i).data.toList.take 56 ++ ((tagS 8 [str ((secS turn num s i).data.toList.take 56)]).data.toList.take 8) := by
  have hb : (secS turn num s i).data.toList.take 56 = bodyL turn num s i := by
    apply List.ext_getElem?
    intro k
    by_cases hk : k < 56
    · rw [List.getElem?_take, if_pos hk, secS_at _ _ _ _ _ hk]
    · rw [List.getElem?_take, if_neg hk, List.getElem?_eq_none (by rw [bodyL_length]; omega)]
  rw [hb]
  unfold secS sumS
  rw [ByteArray.data_append, Array.toList_append, ByteArray.data_extract, Array.toList_extract]
  rfl
theorem tagF_small (tag : Nat) (ts : List (Nat × Nat)) : tagF tag ts < 256 ^ 16 := Nat.mod_lt _ (by decide)
theorem tag_take (tag : Nat) (ts : List (Nat × Nat)) : numB ((tagS (UInt8.ofNat tag) (ts.map txt)).data.toList.take 8) = tagF tag ts / 18446744073709551616 := by
  rw [tag_texts]
  show numB ((be (tagF tag ts) 16).take 8) = _
  rw [numB_take, numB_be, be_length, Nat.mod_eq_of_lt (tagF_small tag ts)]
theorem body_num (j : Nat) (hj : j < 8) : numB ((secJ j).data.toList.take 56) = bodyN j * 256 ^ 37 := by
  have hb : (secJ j).data.toList.take 56 = bodyL (1 + j / 4) (j % 4) (idxS (j + 1)) 0 := by
    apply List.ext_getElem?
    intro k
    by_cases hk : k < 56
    · rw [List.getElem?_take, if_pos hk]; exact secS_at _ _ _ _ _ hk
    · rw [List.getElem?_take, if_neg hk, List.getElem?_eq_none (by rw [bodyL_length]; omega)]
  have hz : (idxS (j + 1)).size = 2 := idxS_size _
  have hp : partS (idxS (j + 1)) 0 = idxS (j + 1) := partS_zero _ (by omega)
  have hq : partsN 2 = 1 := by decide
  have hn : numB (nameS (1 + j / 4) (j % 4) (idxS (j + 1))).data.toList = tagF 7 [(1 + j / 4, 4), (j % 4, 2), (j + 1, 2)] / 18446744073709551616 := by
    rw [← tag_take]
    unfold nameS
    rw [ByteArray.data_extract, Array.toList_extract]
    rfl
  have hnl : (nameS (1 + j / 4) (j % 4) (idxS (j + 1))).data.toList.length = 8 := nameS_size _ _ _
  have hi : (idxS (j + 1)).data.toList = be (j + 1) 2 := rfl
  rw [hb]
  unfold bodyL bodyN
  rw [hp, hz, hq, hi]
  simp only [numB_append, numB_be, numB_zeros, hn, be_length, List.length_replicate, hnl]
  generalize tagF 7 [(1 + j / 4, 4), (j % 4, 2), (j + 1, 2)] / 18446744073709551616 = Y
  have h1 : (1 + j / 4) % 256 ^ 4 = 1 + j / 4 := Nat.mod_eq_of_lt (by omega)
  have h2 : j % 4 % 256 ^ 2 = j % 4 := Nat.mod_eq_of_lt (by omega)
  have h3 : (j + 1) % 256 ^ 2 = j + 1 := Nat.mod_eq_of_lt (by omega)
  rw [h1, h2, h3]
  omega
theorem secJ_len (j : Nat) : (secJ j).data.toList.length = 64 := secS_size _ _ _ _
theorem pre_num (j t : Nat) (hj : j < 8) (ht : t ≤ 56) : numB ((mixL j t).take 56) = preN j t := by
  have e : (mixL j t).take 56 = ((secJ j).data.toList.take 56).take t ++ List.replicate (56 - t) 0 := by
    unfold mixL
    rw [List.take_append, List.length_take, secJ_len, List.take_take, List.take_take, List.take_replicate]
    congr 2
    · omega
    · omega
  rw [e, numB_append, numB_zeros, numB_take, List.length_take, secJ_len, List.length_replicate, body_num j hj]
  rfl
/-- a torn record of an index is none -/
theorem readS_torn (j t : Nat) (hj : j < 8) (R : List ByteArray) (hne : str (mixL j t) ≠ secJ j) : readS (1 + j / 4) (j % 4) (str (mixL j t) :: R) = none := by
  cases h : readS (1 + j / 4) (j % 4) (str (mixL j t) :: R) with
  | none => rfl
  | some s =>
    exfalso
    have hx := readS_tag _ _ _ _ _ h
    have ht := secS_tag (1 + j / 4) (j % 4) s 0
    rw [← hx] at ht
    change mixL j t = (mixL j t).take 56 ++ (tagS 8 [str ((mixL j t).take 56)]).data.toList.take 8 at ht
    have hl : (mixL j t).length = 64 := by
      unfold mixL
      rw [List.length_append, List.length_take, secJ_len, List.length_replicate]
      omega
    have hd : (mixL j t).drop 56 = (tagS 8 [str ((mixL j t).take 56)]).data.toList.take 8 := by
      have := congrArg (fun l => l.drop 56) ht
      have hnil : ((mixL j t).take 56).drop 56 = [] := List.drop_eq_nil_of_le (by rw [List.length_take]; omega)
      rwa [List.drop_append_of_le_length (by rw [List.length_take]; omega), hnil, List.nil_append] at this
    by_cases h56 : t ≤ 56
    · have hz : (mixL j t).drop 56 = List.replicate 8 0 := by
        unfold mixL
        rw [List.drop_append, List.drop_eq_nil_of_le (by rw [List.length_take]; omega), List.length_take, secJ_len, List.drop_replicate, List.nil_append]
        congr 1
        omega
      have hp : str ((mixL j t).take 56) = txt (preN j t, 56) := by
        unfold txt
        rw [← pre_num j t hj h56]
        have : ((mixL j t).take 56).length = 56 := by rw [List.length_take]; omega
        show str _ = str (be (numB ((mixL j t).take 56)) 56)
        have hbe := be_numB ((mixL j t).take 56)
        rw [this] at hbe
        rw [hbe]
      rw [hz, hp] at hd
      have h0 := congrArg numB hd
      rw [numB_zeros] at h0
      have h1 := tag_take 8 [(preN j t, 56)]
      have hk := torn_ok
      unfold tornOk at hk
      rw [List.all_eq_true] at hk
      have hk1 := hk j (List.mem_range.2 hj)
      rw [List.all_eq_true] at hk1
      have hk2 := hk1 t (List.mem_range.2 (by omega))
      have hk3 : 0 < tagF 8 [(preN j t, 56)] / 18446744073709551616 := by simpa [Nat.blt_eq] using hk2
      have h2 : numB ((tagS 8 [txt (preN j t, 56)]).data.toList.take 8) = tagF 8 [(preN j t, 56)] / 18446744073709551616 := h1
      rw [h2] at h0
      omega
    · have hs : (mixL j t).take 56 = (secJ j).data.toList.take 56 := by
        unfold mixL
        rw [List.take_append_of_le_length (by rw [List.length_take, secJ_len]; omega), List.take_take]
        congr 1
        omega
      apply hne
      rw [hs] at ht
      have h2 := secS_tag (1 + j / 4) (j % 4) (idxS (j + 1)) 0
      rw [ht]
      change str ((secJ j).data.toList.take 56 ++ (tagS 8 [str ((secJ j).data.toList.take 56)]).data.toList.take 8) = _
      have h3 : (secJ j).data.toList = (secJ j).data.toList.take 56 ++ (tagS 8 [str ((secJ j).data.toList.take 56)]).data.toList.take 8 := h2
      rw [← h3, str_self]
theorem secJ_take4 (j : Nat) : (secJ j).data.toList.take 4 = be (1 + j / 4) 4 := by
  apply List.ext_getElem?
  intro k
  by_cases hk : k < 4
  · rw [List.getElem?_take, if_pos hk]
    unfold secJ
    rw [secS_at _ _ _ _ _ (by omega)]
    unfold bodyL
    simp only [List.append_assoc]
    rw [List.getElem?_append_left (by rw [be_length]; exact hk)]
  · rw [List.getElem?_take, if_neg hk, List.getElem?_eq_none (by rw [be_length]; omega)]
theorem turn_mix (j t : Nat) (hj : j < 8) : turnOf (str (mixL j t)) = 0 ∨ turnOf (str (mixL j t)) = 1 + j / 4 := by
  by_cases h4 : 4 ≤ t
  · right
    have h1 : turnOf (secJ j) = 1 + j / 4 := turnOf_secS _ _ _ _ (by omega)
    rw [← h1]
    have e : (str (mixL j t)).data.toList.take 4 = (secJ j).data.toList.take 4 := by
      show (mixL j t).take 4 = _
      unfold mixL
      rw [List.take_append_of_le_length (by rw [List.length_take, secJ_len]; omega), List.take_take]
      congr 1
      omega
    unfold turnOf
    rw [e]
  · left
    have e : (str (mixL j t)).data.toList.take 4 = (be (1 + j / 4) 4).take t ++ List.replicate (4 - t) 0 := by
      show (mixL j t).take 4 = _
      rw [← secJ_take4]
      unfold mixL
      rw [List.take_append, List.length_take, secJ_len, List.take_take, List.take_take, List.take_replicate]
      congr 2
      · omega
      · omega
    unfold turnOf
    rw [e]
    have ht : t = 0 ∨ t = 1 ∨ t = 2 ∨ t = 3 := by omega
    have hT : j / 4 = 0 ∨ j / 4 = 1 := by omega
    rcases hT with hT | hT <;> rw [hT] <;> rcases ht with rfl | rfl | rfl | rfl <;> decide
end Go.Proofs.YtbakhdbnfmoceaaGreatDoor

namespace Go.Proofs.YtbakhdbnfmoceaaGreatDoor
open Go.RowKit
attribute [local irreducible] shaL

/-- the book's sectors behind m records, where the next one is torn -/
def secAt (m t j : Nat) : List UInt8 := if j < m then (secJ j).data.toList else if j = m then mixL m t else zeros 64
def secsH (m t p : Nat) : List ByteArray := (List.range 4).map fun i => str (secAt m t (4 * p + i))
theorem secsH_drop (m t p u : Nat) (hu : u < 4) : ∃ R, (secsH m t p).drop u = str (secAt m t (4 * p + u)) :: R := by
  have hl : u < (secsH m t p).length := by simp [secsH]; exact hu
  refine ⟨(secsH m t p).drop (u + 1), ?_⟩
  rw [List.drop_eq_getElem_cons hl]
  congr 1
  simp [secsH]
def recsH (p c : Nat) : List ByteArray := (List.range c).map fun i => idxS (4 * p + i + 1)
theorem read_state (m t p u : Nat) (hp : p < 2) (hm : m ≤ 8) (hne : m < 8 → str (mixL m t) ≠ secJ m) (hu : u < 4) (R : List ByteArray) :
    readS (1 + p) u (str (secAt m t (4 * p + u)) :: R) = if 4 * p + u < m then some (idxS (4 * p + u + 1)) else none := by
  have hd : (4 * p + u) / 4 = p := by omega
  have hr : (4 * p + u) % 4 = u := by omega
  unfold secAt
  by_cases h1 : 4 * p + u < m
  · rw [if_pos h1, if_pos h1, str_self]
    have := readS_one (1 + (4 * p + u) / 4) ((4 * p + u) % 4) (idxS (4 * p + u + 1)) R (by rw [idxS_size]; decide)
    rw [hd, hr] at this
    unfold secJ
    rw [hd, hr]
    exact this
  · rw [if_neg h1, if_neg h1]
    by_cases h2 : 4 * p + u = m
    · rw [if_pos h2]
      have := readS_torn m t (by omega) R (hne (by omega))
      rw [← h2, hd, hr] at this
      rw [← h2]
      exact this
    · rw [if_neg h2]
      exact readS_zero _ _ _
theorem loop_state (m t p : Nat) (hp : p < 2) (hm : m ≤ 8) (hne : m < 8 → str (mixL m t) ≠ secJ m) (c : Nat) (hc : c = min (m - 4 * p) 4) :
    ∀ f u, u ≤ c → u + f = 4 → halfLoop (1 + p) (secsH m t p) f (recsH p u) u = (recsH p c, c)
  | 0, u, h1, h2 => by
    have : u = c := by omega
    subst this
    rfl
  | f + 1, u, h1, h2 => by
    have hl : (secsH m t p).length = 4 := by simp [secsH]
    obtain ⟨R, hR⟩ := secsH_drop m t p u (by omega)
    have hlen : (recsH p u).length = u := by simp [recsH]
    have hrd := read_state m t p u hp hm hne (by omega) R
    by_cases hlt : u < c
    · rw [if_pos (by omega)] at hrd
      rw [loop_some (1 + p) (secsH m t p) f (recsH p u) u (idxS (4 * p + u + 1)) (by omega) (by rw [hlen, hR]; exact hrd)]
      have e : recsH p u ++ [idxS (4 * p + u + 1)] = recsH p (u + 1) := by simp [recsH, List.range_succ]
      have h1p : partsN (idxS (4 * p + u + 1)).size = 1 := by rw [idxS_size]; decide
      rw [e, h1p]
      exact loop_state m t p hp hm hne c hc f (u + 1) (by omega) (by omega)
    · have : u = c := by omega
      subst this
      rw [if_neg (by omega)] at hrd
      exact loop_none (1 + p) (secsH m t p) f (recsH p u) u (by omega) (by rw [hlen, hR]; exact hrd)
theorem half_state (m t p : Nat) (hp : p < 2) (hm : m ≤ 8) (hne : m < 8 → str (mixL m t) ≠ secJ m) (c : Nat) (hc : c = min (m - 4 * p) 4) :
    halfS (secsH m t p) = if c = 0 then ⟨0, [], 0⟩ else ⟨1 + p, recsH p c, c⟩ := by
  have hl : (secsH m t p).length = 4 := by simp [secsH]
  have hh : (secsH m t p).headD ⟨#[]⟩ = str (secAt m t (4 * p)) := rfl
  have hlp := loop_state m t p hp hm hne c hc 4 0 (by omega) rfl
  have hr0 : recsH p 0 = [] := rfl
  rw [hr0] at hlp
  unfold halfS
  rw [hh, hl]
  by_cases hc0 : c = 0
  · rw [if_pos hc0]
    subst hc0
    rw [hr0] at hlp
    have ht : turnOf (str (secAt m t (4 * p))) = 0 ∨ turnOf (str (secAt m t (4 * p))) = 1 + p := by
      unfold secAt
      rw [if_neg (by omega)]
      by_cases h2 : 4 * p = m
      · rw [if_pos h2]
        have := turn_mix m t (by omega)
        rwa [show m / 4 = p by omega] at this
      · rw [if_neg h2]
        exact .inl (by decide)
    rcases ht with ht | ht
    · rw [if_pos ht]
    · rw [if_neg (by omega), ht, hlp, if_pos rfl]
  · rw [if_neg hc0]
    have ht : turnOf (str (secAt m t (4 * p))) = 1 + p := by
      unfold secAt
      rw [if_pos (by omega), str_self]
      have := turnOf_secS (1 + 4 * p / 4) (4 * p % 4) (idxS (4 * p + 1)) 0 (by omega)
      rw [show 4 * p / 4 = p by omega] at this
      unfold secJ
      rw [show 4 * p / 4 = p by omega]
      exact this
    have hne' : recsH p c ≠ [] := by
      intro h
      have := congrArg List.length h
      simp [recsH] at this
      exact hc0 this
    rw [ht, hlp, if_neg (by omega), if_neg hne']
def stateL (m t : Nat) : List (List UInt8) := zeros 64 :: ((List.range 8).map (secAt m t) ++ [zeros 64])
/-- the book of m records -/
def stB (m : Nat) : BookS := if m = 0 then newB 1 4 else if m ≤ 4 then ⟨1, 4, 0, 1, recsH 0 m, m, false⟩ else ⟨1, 4, 1, 2, recsH 1 (m - 4), m - 4, false⟩
theorem secs_state (D : DiskS) (m t p : Nat) (hL : D.last = stateL m t) (hW : D.wait = []) (hp : p < 2) : secsK D (1 + p * 4) 4 = secsH m t p := by
  apply List.ext_getElem?
  intro i
  unfold secsK secsH
  rw [List.getElem?_map, List.getElem?_map]
  by_cases hi : i < 4
  · rw [List.getElem?_range hi]
    show some (str (readL D.last D.wait (1 + p * 4 + i))) = some (str (secAt m t (4 * p + i)))
    rw [hL, hW]
    show some (str ((stateL m t).getD (1 + p * 4 + i) [])) = _
    have e : (stateL m t).getD (1 + p * 4 + i) [] = secAt m t (4 * p + i) := by
      unfold stateL
      rw [show 1 + p * 4 + i = (4 * p + i) + 1 by omega, List.getD_cons_succ, List.getD_eq_getElem?_getD, List.getElem?_append_left (by simp; omega), List.getElem?_map, List.getElem?_range (by omega)]
      rfl
    rw [e]
  · rw [List.getElem?_eq_none (by simpa using hi)]
    rfl
theorem book_state (D : DiskS) (m t : Nat) (hL : D.last = stateL m t) (hW : D.wait = []) (hm : m ≤ 8) (hne : m < 8 → str (mixL m t) ≠ secJ m) : bookOf D 1 4 = stB m := by
  have h0 := half_state m t 0 (by decide) hm hne _ rfl
  have h1 := half_state m t 1 (by decide) hm hne _ rfl
  rw [← secs_state D m t 0 hL hW (by decide)] at h0
  rw [← secs_state D m t 1 hL hW (by decide)] at h1
  unfold bookOf stB
  by_cases c0 : m = 0
  · subst c0
    rw [if_pos (by decide)] at h0 h1
    rw [pickS, pickS, pickS, h0, h1]
    rfl
  · by_cases c4 : m ≤ 4
    · have e0 : min (m - 4 * 0) 4 = m := by omega
      have e1 : min (m - 4 * 1) 4 = 0 := by omega
      rw [e0, if_neg c0] at h0
      rw [e1, if_pos rfl] at h1
      rw [pickS, pickS, pickS, h0, h1, if_neg c0, if_pos c4]
      rfl
    · have e0 : min (m - 4 * 0) 4 = 4 := by omega
      have e1 : min (m - 4 * 1) 4 = m - 4 := by omega
      rw [e0, if_neg (by decide)] at h0
      rw [e1, if_neg (by omega)] at h1
      rw [pickS, pickS, pickS, h0, h1, if_neg c0, if_neg c4]
      rfl
theorem st_next (m : Nat) (hm : m ≤ 8) : nextE (stB m).recs = 0 ∧ nextN (stB m).recs = m := by
  have hv : ∀ n, n < 65536 → val (idxS n).data.toList = n := fun n h => val_be n 2 (by simpa using h)
  have hr : ∀ p c, 0 < c → (recsH p c).getLast? = some (idxS (4 * p + c)) := by
    intro p c h
    obtain ⟨k, rfl⟩ : ∃ k, c = k + 1 := ⟨c - 1, by omega⟩
    rw [List.getLast?_eq_getElem?]
    simp [recsH]
    rfl
  have hg : ∀ p c, 0 < c → nextE (recsH p c) = 0 ∧ nextN (recsH p c) = val (idxS (4 * p + c)).data.toList := by
    intro p c h
    unfold nextE nextN
    rw [hr p c h]
    simp only
    rw [if_pos (idxS_size _), if_pos (idxS_size _)]
    exact ⟨rfl, rfl⟩
  unfold stB
  by_cases c0 : m = 0
  · subst c0; exact ⟨rfl, rfl⟩
  · rw [if_neg c0]
    by_cases c4 : m ≤ 4
    · rw [if_pos c4]
      have := hg 0 m (by omega)
      rw [hv _ (by omega)] at this
      exact ⟨this.1, by rw [this.2]; omega⟩
    · rw [if_neg c4]
      have := hg 1 (m - 4) (by omega)
      rw [hv _ (by omega)] at this
      exact ⟨this.1, by rw [this.2]; omega⟩
end Go.Proofs.YtbakhdbnfmoceaaGreatDoor

namespace Go.Proofs.YtbakhdbnfmoceaaGreatDoor
open Go.RowKit
attribute [local irreducible] shaL

/-- the disk behind m records, where the next one is torn at t; nothing waits -/
structure StateD (m t : Nat) (D : DiskS) : Prop where
  last : D.last = stateL m t
  wait : D.wait = []
  le : m ≤ 8
  ne : m < 8 → str (mixL m t) ≠ secJ m
theorem mix_zero (j : Nat) : mixL j 0 = zeros 64 := by unfold mixL; rw [List.take_zero, List.nil_append]; rfl
theorem zero_ne (j : Nat) (hj : j < 8) : str (mixL j 0) ≠ secJ j := by
  intro h
  have h1 : turnOf (secJ j) = 1 + j / 4 := turnOf_secS _ _ _ _ (by omega)
  rw [← h, mix_zero, turn_zero] at h1
  omega
theorem state_new : StateD 0 0 (newD 10) := by
  refine ⟨?_, rfl, by decide, fun _ => zero_ne 0 (by decide)⟩
  show List.replicate 10 (zeros 64) = stateL 0 0
  have hz : ∀ j, secAt 0 0 j = zeros 64 := by
    intro j
    unfold secAt
    rw [if_neg (Nat.not_lt_zero j)]
    by_cases h : j = 0
    · rw [if_pos h]; exact mix_zero _
    · rw [if_neg h]
  unfold stateL
  rw [show secAt 0 0 = fun _ => zeros 64 from funext hz]
  generalize zeros 64 = Z
  rfl
theorem state_len (m t : Nat) : (stateL m t).length = 10 := by
  unfold stateL
  rw [List.length_cons, List.length_append, List.length_map, List.length_range, List.length_singleton]
theorem set_mid (f g : Nat → List UInt8) (Z x : List UInt8) (m : Nat) (hm : m < 8) (hx : g m = x) (hne : ∀ j, j < 8 → j ≠ m → g j = f j) : (Z :: ((List.range 8).map f ++ [Z])).set (1 + m) x = Z :: ((List.range 8).map g ++ [Z]) := by
  have h : ((List.range 8).map f).set m x = (List.range 8).map g := by
    apply List.ext_getElem?
    intro i
    by_cases hi : i = m
    · subst hi
      rw [List.getElem?_set_self (by rw [List.length_map, List.length_range]; exact hm), List.getElem?_map, List.getElem?_range hm, ← hx]
      rfl
    · rw [List.getElem?_set_ne (fun e => hi e.symm), List.getElem?_map, List.getElem?_map]
      by_cases hi8 : i < 8
      · rw [List.getElem?_range hi8]
        show some (f i) = some (g i)
        rw [hne i hi8 hi]
      · rw [List.getElem?_eq_none (by rw [List.length_range]; omega)]
        rfl
  rw [show 1 + m = m + 1 by omega, List.set_cons_succ, List.set_append_left _ _ (by rw [List.length_map, List.length_range]; exact hm), h]
theorem state_set (m t : Nat) (hm : m < 8) (x : List UInt8) (m' t' : Nat) (hx : secAt m' t' m = x) (hne : ∀ j, j < 8 → j ≠ m → secAt m' t' j = secAt m t j) : (stateL m t).set (1 + m) x = stateL m' t' := by
  unfold stateL
  exact set_mid (secAt m t) (secAt m' t') (zeros 64) x m hm hx hne
theorem sec_self (m t : Nat) : secAt m t m = mixL m t := by unfold secAt; rw [if_neg (by omega), if_pos rfl]
theorem sec_mix (m t t' j : Nat) (h : j ≠ m) : secAt m t' j = secAt m t j := by
  unfold secAt
  by_cases h1 : j < m
  · rw [if_pos h1, if_pos h1]
  · rw [if_neg h1, if_neg h1, if_neg h, if_neg h]
theorem sec_next (m : Nat) : secAt (m + 1) 0 m = (secJ m).data.toList := by unfold secAt; rw [if_pos (by omega)]
theorem sec_next_ne (m t j : Nat) (h : j ≠ m) : secAt (m + 1) 0 j = secAt m t j := by
  unfold secAt
  by_cases h1 : j < m
  · rw [if_pos (by omega), if_pos h1]
  · rw [if_neg (by omega), if_neg h1, if_neg h]
    split
    · rw [mix_zero]
    · rfl
theorem state_mix (m t t' : Nat) (hm : m < 8) : (stateL m t).set (1 + m) (mixL m t') = stateL m t' := state_set m t hm _ m t' (sec_self m t') (fun j _ h => sec_mix m t t' j h)
theorem state_next (m t : Nat) (hm : m < 8) : (stateL m t).set (1 + m) (secJ m).data.toList = stateL (m + 1) 0 := state_set m t hm _ (m + 1) 0 (sec_next m) (fun j _ h => sec_next_ne m t j h)
theorem secJ_full (m : Nat) : fullL (secJ m).data.toList = (secJ m).data.toList := by
  unfold fullL
  rw [secJ_len]
  exact List.append_nil _
theorem mix_torn (m t k : Nat) (ht : t ≤ 64) (hk : k ≤ 64) : tornL (mixL m t) (secJ m).data.toList k = mixL m (max t k) := by
  unfold tornL mixL
  have hl := secJ_len m
  by_cases h : k ≤ t
  · rw [Nat.max_eq_left h, List.drop_append, List.length_take, hl, show min t 64 = t by omega, show k - t = 0 by omega, List.drop_zero, ← List.append_assoc]
    congr 1
    have e : (secJ m).data.toList.take k = ((secJ m).data.toList.take t).take k := by rw [List.take_take, Nat.min_eq_left h]
    rw [e, List.take_append_drop]
  · rw [Nat.max_eq_right (by omega), List.drop_append, List.length_take, hl, show min t 64 = t by omega, List.drop_eq_nil_of_le (by rw [List.length_take, hl]; omega), List.nil_append, List.drop_replicate]
    congr 2
    omega
theorem mix_cap (m t : Nat) : mixL m t = mixL m (min t 64) := by
  unfold mixL
  by_cases h : t ≤ 64
  · rw [Nat.min_eq_left h]
  · rw [Nat.min_eq_right (by omega), List.take_of_length_le (by rw [secJ_len]; omega), List.take_of_length_le (by rw [secJ_len]; omega), show 64 - t = 0 by omega]
theorem state_cap (m t : Nat) (hm : m < 8) : stateL m t = stateL m (min t 64) := by
  rw [← state_mix m t (min t 64) hm, ← mix_cap, ← sec_self m t]
  exact (state_set m t hm _ m t rfl (fun _ _ _ => rfl)).symm
/-- a failure while the record is written -/
theorem state_cut (m t : Nat) (D : DiskS) (hS : StateD m t D) (hm : m < 8) (ks : List UInt8) :
    ∃ m' t', (m' = m ∨ m' = m + 1) ∧ cutL D.last (D.wait ++ [(1 + m, (secJ m).data.toList)]) ks = stateL m' t' ∧ m' ≤ 8 ∧ (m' < 8 → str (mixL m' t') ≠ secJ m') := by
  rw [hS.last, hS.wait, List.nil_append]
  match ks with
  | [] => exact ⟨m, t, .inl rfl, by rw [cutL_none], hS.le, hS.ne⟩
  | k :: ks =>
    have e : (stateL m t).getD (1 + m) [] = mixL m t := by
      rw [← sec_self m t, List.getD_eq_getElem?_getD]
      unfold stateL
      rw [show 1 + m = m + 1 by omega, List.getElem?_cons_succ, List.getElem?_append_left (by simp; omega), List.getElem?_map, List.getElem?_range (by omega)]
      rfl
    rw [cutL, cutL]
    show ∃ m' t', _ ∧ (stateL m t).set (1 + m) (tornL ((stateL m t).getD (1 + m) []) (secJ m).data.toList (min k.toNat 64)) = _ ∧ _
    rw [e, mix_cap m t, mix_torn m _ _ (by omega) (by omega)]
    obtain ⟨u, hu⟩ : ∃ u, max (min t 64) (min k.toNat 64) = u := ⟨_, rfl⟩
    rw [hu, state_mix m t u hm]
    by_cases hn : str (mixL m u) = secJ m
    · refine ⟨m + 1, 0, .inr rfl, ?_, by omega, fun h => zero_ne _ h⟩
      rw [← state_next m t hm, ← state_mix m t u hm, ← hn]
      rfl
    · exact ⟨m, u, .inl rfl, rfl, hS.le, fun _ => hn⟩
/-- what a reservation leaves -/
structure Reserved (m : Nat) (D : DiskS) (R : Int × BookS × DiskS) : Prop where
  done : (R.1 = 0 ∧ R.2.1 = stB (m + 1) ∧ StateD (m + 1) 0 R.2.2 ∧ R.2.2.on = D.on ∧ R.2.2.keep = D.keep ∧ R.2.2.fuse ≤ max D.fuse (-1)) ∨
    (R.1 = 8 ∧ R.2.2.on = false ∧ R.2.2.fuse = -1 ∧ R.2.2.keep = [] ∧ ∃ m' t', (m' = m ∨ m' = m + 1) ∧ StateD m' t' R.2.2)
theorem writes_state (m t : Nat) (D : DiskS) (hS : StateD m t D) (hm : m < 8) :
    ((writesS D (1 + m) [secJ m]).1 = 0 ∧ StateD (m + 1) 0 (writesS D (1 + m) [secJ m]).2 ∧ (writesS D (1 + m) [secJ m]).2.on = D.on ∧ (writesS D (1 + m) [secJ m]).2.keep = D.keep ∧ (writesS D (1 + m) [secJ m]).2.fuse ≤ max D.fuse (-1)) ∨
    ((writesS D (1 + m) [secJ m]).1 = 8 ∧ (writesS D (1 + m) [secJ m]).2.on = false ∧ (writesS D (1 + m) [secJ m]).2.fuse = -1 ∧ (writesS D (1 + m) [secJ m]).2.keep = [] ∧ ∃ m' t', (m' = m ∨ m' = m + 1) ∧ StateD m' t' (writesS D (1 + m) [secJ m]).2) := by
  rw [writesS]
  by_cases h0 : D.fuse = 0
  · rw [if_pos h0]
    refine .inr ⟨rfl, rfl, rfl, rfl, m, t, .inl rfl, ?_, rfl, hS.le, hS.ne⟩
    show cutL D.last D.wait D.keep = _
    rw [hS.wait, cutL, hS.last]
  · rw [if_neg h0, writesS]
    by_cases h1 : (wroteD D (1 + m) (secJ m)).fuse = 0
    · rw [if_pos h1]
      obtain ⟨m', t', q1, q2, q3, q4⟩ := state_cut m t D hS hm D.keep
      refine .inr ⟨rfl, rfl, rfl, rfl, m', t', q1, ?_, rfl, q3, q4⟩
      show cutL D.last (D.wait ++ [(1 + m, fullL (secJ m).data.toList)]) D.keep = _
      rw [secJ_full]
      exact q2
    · rw [if_neg h1]
      refine .inl ⟨rfl, ⟨?_, rfl, by omega, fun h => zero_ne _ h⟩, rfl, rfl, ?_⟩
      · show syncL D.last (D.wait ++ [(1 + m, fullL (secJ m).data.toList)]) = _
        rw [hS.wait, hS.last, secJ_full, List.nil_append, syncL, syncL]
        exact state_next m t hm
      · show decF (if D.fuse < 0 then D.fuse else D.fuse - 1) ≤ _
        unfold decF
        generalize D.fuse = f
        by_cases hf : f < 0
        · rw [if_pos hf, if_pos hf]; omega
        · rw [if_neg hf]
          by_cases hg : f - 1 < 0
          · rw [if_pos hg]; omega
          · rw [if_neg hg]; omega
theorem lay_state (B : BookS) (D : DiskS) (p tn u m : Nat) (L : List ByteArray) (hat : B.first + p * B.size + u = 1 + m) (hsec : secS tn L.length (idxS (m + 1)) 0 = secJ m) :
    layS B D p tn L u (idxS (m + 1)) = if (writesS D (1 + m) [secJ m]).1 = 0 then (0, { B with place := p, turn := tn, recs := L ++ [idxS (m + 1)], used := u + 1 }, (writesS D (1 + m) [secJ m]).2) else ((writesS D (1 + m) [secJ m]).1, { B with failed := true }, (writesS D (1 + m) [secJ m]).2) := by
  have h1 : partsN (idxS (m + 1)).size = 1 := by rw [idxS_size]; decide
  have hn : nextS tn L.length (idxS (m + 1)) = [secJ m] := by
    unfold nextS
    rw [h1, ← hsec]
    rfl
  unfold layS
  rw [hat, hn, h1]
theorem recsH_succ (p c : Nat) : recsH p c ++ [idxS (4 * p + c + 1)] = recsH p (c + 1) := by simp [recsH, List.range_succ]
theorem recsH_len (p c : Nat) : (recsH p c).length = c := by simp [recsH]
theorem reserve_state (m t : Nat) (D : DiskS) (hS : StateD m t D) (hm : m < 8) : Reserved m D (reserveS (stB m) D (m + 1)) := by
  have hz : (idxS (m + 1)).size = 2 := idxS_size _
  have h1 : partsN (idxS (m + 1)).size = 1 := by rw [hz]; decide
  have ht : takesI (stB m) (idxS (m + 1)) = 0 := by
    unfold takesI
    rw [hz, if_neg (by omega), if_neg]
    unfold stB
    split
    · intro h; cases h
    · split <;> intro h <;> cases h
  have hw := writes_state m t D hS hm
  have hE := writes_err [secJ m] D (1 + m)
  have hlay : ∀ (B : BookS) (p tn u : Nat) (L : List ByteArray), B.first + p * B.size + u = 1 + m → secS tn L.length (idxS (m + 1)) 0 = secJ m →
    layS B D p tn L u (idxS (m + 1)) = if (writesS D (1 + m) [secJ m]).1 = 0 then (0, { B with place := p, turn := tn, recs := L ++ [idxS (m + 1)], used := u + 1 }, (writesS D (1 + m) [secJ m]).2) else ((writesS D (1 + m) [secJ m]).1, { B with failed := true }, (writesS D (1 + m) [secJ m]).2) :=
    fun B p tn u L => lay_state B D p tn u m L
  generalize writesS D (1 + m) [secJ m] = P at hw hE hlay
  have hput : putS (stB m) D (idxS (m + 1)) = if (stB m).size - (stB m).used < 1 then (9, stB m, D) else layS (stB m) D (stB m).place (max (stB m).turn 1) (stB m).recs (stB m).used (idxS (m + 1)) := by
    unfold putS
    rw [if_neg (by rw [ht]; decide), h1]
  have hcom : compactS (stB m) D (idxS (m + 1)) = if (stB m).size < 1 ∨ (stB m).turn = 4294967295 then (9, stB m, D) else layS (stB m) D (1 - (stB m).place) ((stB m).turn + 1) [] 0 (idxS (m + 1)) := by
    unfold compactS
    rw [if_neg (by rw [ht]; decide), h1]
  have key : ∀ R : Int × BookS × DiskS, (∃ B : BookS, R = if P.1 = 0 then (0, stB (m + 1), P.2) else (P.1, B, P.2)) → Reserved m D R := by
    rintro R ⟨B, rfl⟩
    rcases hw with ⟨q0, q1, q2, q3, q4⟩ | ⟨q0, q1, q2, q3, q4⟩
    · rw [if_pos q0]
      exact ⟨.inl ⟨rfl, rfl, q1, q2, q3, q4⟩⟩
    · rw [if_neg (by rw [q0]; decide)]
      exact ⟨.inr ⟨q0, q1, q2, q3, q4⟩⟩
  have ne9 : ∀ B : BookS, (if P.1 = 0 then ((0 : Int), stB (m + 1), P.2) else (P.1, B, P.2)).1 ≠ 9 := by
    intro B
    rcases hE with q | q
    · rw [if_pos q]; show ¬ (0 : Int) = 9; decide
    · rw [if_neg (by rw [q]; decide)]; show ¬ P.1 = 9; rw [q]; decide
  apply key
  clear key hw hE
  unfold reserveS
  by_cases c4 : m = 4
  · have hb : stB m = ⟨1, 4, 0, 1, recsH 0 4, 4, false⟩ := by subst c4; rfl
    have hb' : stB (m + 1) = ⟨1, 4, 1, 2, [] ++ [idxS (m + 1)], 0 + 1, false⟩ := by subst c4; rfl
    have hs : secS 2 ([] : List ByteArray).length (idxS (m + 1)) 0 = secJ m := by subst c4; rfl
    have := hlay (stB m) 1 2 0 [] (by rw [hb]; show 1 + 1 * 4 + 0 = 1 + m; omega) hs
    rw [hput, if_pos (show (stB m).size - (stB m).used < 1 by rw [hb]; decide), if_pos rfl, hcom, if_neg (show ¬ ((stB m).size < 1 ∨ (stB m).turn = 4294967295) by rw [hb]; decide)]
    have e1 : 1 - (stB m).place = 1 := by rw [hb]; rfl
    have e2 : (stB m).turn + 1 = 2 := by rw [hb]
    rw [e1, e2, this, hb', hb]
    exact ⟨_, rfl⟩
  · have hlay2 : ∃ B : BookS, putS (stB m) D (idxS (m + 1)) = if P.1 = 0 then (0, stB (m + 1), P.2) else (P.1, B, P.2) := by
      rw [hput]
      by_cases c0 : m = 0
      · have hb : stB m = ⟨1, 4, 0, 0, [], 0, false⟩ := by subst c0; rfl
        have hb' : stB (m + 1) = ⟨1, 4, 0, 1, [] ++ [idxS (m + 1)], 0 + 1, false⟩ := by subst c0; rfl
        have hs : secS 1 ([] : List ByteArray).length (idxS (m + 1)) 0 = secJ m := by subst c0; rfl
        have := hlay ⟨1, 4, 0, 0, [], 0, false⟩ 0 1 0 [] (by show 1 + 0 * 4 + 0 = 1 + m; omega) hs
        rw [hb, if_neg (show ¬ (4 : Nat) - 0 < 1 by decide), hb']
        exact ⟨_, this⟩
      · by_cases c3 : m < 4
        · have hb : stB m = ⟨1, 4, 0, 1, recsH 0 m, m, false⟩ := by unfold stB; rw [if_neg c0, if_pos (by omega)]
          have hb' : stB (m + 1) = ⟨1, 4, 0, 1, recsH 0 (m + 1), m + 1, false⟩ := by unfold stB; rw [if_neg (by omega), if_pos (by omega)]
          have hs : secS 1 (recsH 0 m).length (idxS (m + 1)) 0 = secJ m := by unfold secJ; rw [recsH_len, show m / 4 = 0 by omega, show m % 4 = m by omega]
          have := hlay ⟨1, 4, 0, 1, recsH 0 m, m, false⟩ 0 1 m (recsH 0 m) (by show 1 + 0 * 4 + m = 1 + m; omega) hs
          have hr := recsH_succ 0 m
          rw [show 4 * 0 + m + 1 = m + 1 by omega] at hr
          rw [hr] at this
          rw [hb, hb', if_neg (by show ¬ 4 - m < 1; omega)]
          exact ⟨_, this⟩
        · have hb : stB m = ⟨1, 4, 1, 2, recsH 1 (m - 4), m - 4, false⟩ := by unfold stB; rw [if_neg c0, if_neg (by omega)]
          have hb' : stB (m + 1) = ⟨1, 4, 1, 2, recsH 1 (m - 4 + 1), m - 4 + 1, false⟩ := by unfold stB; rw [if_neg (by omega), if_neg (by omega), show m + 1 - 4 = m - 4 + 1 by omega]
          have hs : secS 2 (recsH 1 (m - 4)).length (idxS (m + 1)) 0 = secJ m := by unfold secJ; rw [recsH_len, show m / 4 = 1 by omega, show m % 4 = m - 4 by omega]
          have := hlay ⟨1, 4, 1, 2, recsH 1 (m - 4), m - 4, false⟩ 1 2 (m - 4) (recsH 1 (m - 4)) (by show 1 + 1 * 4 + (m - 4) = 1 + m; omega) hs
          have hr := recsH_succ 1 (m - 4)
          rw [show 4 * 1 + (m - 4) + 1 = m + 1 by omega] at hr
          rw [hr] at this
          rw [hb, hb', if_neg (by show ¬ 4 - (m - 4) < 1; omega)]
          exact ⟨_, this⟩
    obtain ⟨B, hB⟩ := hlay2
    rw [hB, if_neg (ne9 B)]
    exact ⟨B, rfl⟩
end Go.Proofs.YtbakhdbnfmoceaaGreatDoor

namespace Go.Proofs.YtbakhdbnfmoceaaGreatDoor
open Go.RowKit
attribute [local irreducible] shaL

set_option maxRecDepth 100000 in
theorem twice_none (a : Option Addr) (n c : Nat) (L : List Int) (w : World) (hv : IntsAt w (.slice a n c) L) (hl : n ≤ 1000) (hp : L.Pairwise (· < ·)) :
    Calls Tryz.prog 16 #[.slice a n c] w fun e w' => e = .returned (.bool false) ∧ w.grownBy w' none := by
  have hn : L.length = n := by obtain ⟨_, _, e, _⟩ := hv; injection e with _ e _; exact e.symm
  have HV := Lib.hid hv
  have HN := Lib.hid hn
  have HP := Lib.hid hp
  clear hv hn hp
  go_enter Tryz.func16, Tryz.ntmps16
  go_wp2_with fail
  go_loopw [3] (fun iv wr => ∃ k : Nat, k ≤ n ∧ iv = .int .i64 k ∧ Hid (w.grownBy wr none)) (fun iv _ => n - (intOf iv).toNat)
  case atStart => exact ⟨0, Nat.zero_le _, rfl, World.grownBy.refl _ _⟩
  case round =>
    obtain ⟨k, hk, rfl, HW⟩ := hrel
    by_cases hlt : k < n
    · have d1 : (k : Int) < (n : Int) := by omega
      have d0 : (0 : Int) ≤ (k : Int) := by omega
      go_wp2_with fail
      go_loopw [4] (fun jv wq => ∃ j : Nat, j ≤ k ∧ jv = .int .i64 j ∧ Hid (w.grownBy wq none)) (fun jv _ => k - (intOf jv).toNat)
      case atStart => exact ⟨0, Nat.zero_le _, rfl, HW⟩
      case round =>
        obtain ⟨j, hj, rfl, HW2⟩ := hrel
        by_cases hjl : j < k
        · have e1 : (j : Int) < (k : Int) := by omega
          have e2 : (j : Int) < (n : Int) := by omega
          have e0 : (0 : Int) ≤ (j : Int) := by omega
          obtain ⟨g, o, rfl, c1, c2, hne⟩ : ∃ g o, a = some ⟨g, o, none⟩ ∧ wr.cell? ⟨g, o + k, none⟩ = some (.int .i64 (L.getD k 0)) ∧ wr.cell? ⟨g, o + j, none⟩ = some (.int .i64 (L.getD j 0)) ∧ (L.getD k 0 == L.getD j 0) = false := by
            obtain ⟨a', c', e, h⟩ := HV.out
            injection e with e3 _ _
            have hkl : k < L.length := by rw [HN.out]; exact hlt
            have hjl2 : j < L.length := by omega
            obtain ⟨g, o, e4, h1⟩ := h k hkl
            obtain ⟨g', o', e5, h2⟩ := h j hjl2
            rw [e4] at e5
            cases e5
            have q1 : L.getD k 0 = L[k] := by rw [List.getD_eq_getElem?_getD, List.getElem?_eq_getElem hkl]; rfl
            have q2 : L.getD j 0 = L[j] := by rw [List.getD_eq_getElem?_getD, List.getElem?_eq_getElem hjl2]; rfl
            refine ⟨g, o, by rw [e3, e4], by rw [q1]; exact HW2.out.cell h1 (by simp), by rw [q2]; exact HW2.out.cell h2 (by simp), ?_⟩
            have := List.pairwise_iff_getElem.1 HP.out j k hjl2 hkl hjl
            rw [q1, q2]
            simp
            omega
          generalize L.getD k 0 = x at c1 hne
          generalize L.getD j 0 = y at c2 hne
          go_wp2_with fail
          go_region
          all_goals
            go_wp2_with fail
            go_roundw
            case rel => exact ⟨j + 1, by omega, by go_num, grownBy_drew HW2.out⟩
            case measure => simp [intOf]; omega
        · have e1 : ¬ (j : Int) < (k : Int) := by omega
          go_wp2_with fail
          go_roundw
          case rel => exact ⟨k + 1, by omega, by go_num, HW2⟩
          case measure => simp [intOf]; omega
    · have d1 : ¬ (k : Int) < (n : Int) := by omega
      go_wp2_with fail
      go_ret
      exact ⟨rfl, HW.out⟩
theorem stB_ok (m : Nat) (hm : m ≤ 8) : BookOK 10 (stB m) := by
  unfold stB
  split
  · exact ⟨by decide, by decide, by decide, by decide, by decide, by decide, by decide⟩
  · split
    · exact ⟨by show 1 + 2 * 4 ≤ 10; omega, by decide, by show 4 ≤ 4; omega, by show 0 ≤ 1; omega, by show 1 ≤ 4294967295; omega, by show (recsH 0 m).length ≤ m; rw [recsH_len]; exact Nat.le_refl _, by show m ≤ 4; omega⟩
    · exact ⟨by show 1 + 2 * 4 ≤ 10; omega, by decide, by show 4 ≤ 4; omega, by show 1 ≤ 1; omega, by show 2 ≤ 4294967295; omega, by show (recsH 1 (m - 4)).length ≤ m - 4; rw [recsH_len]; exact Nat.le_refl _, by show m - 4 ≤ 4; omega⟩
/-- a call of the disk beneath a signer -/
theorem SigMem.disked {n0 : Nat} {X : List Nat} {w : World} {sg kb lg g b : Nat} {seed : ByteArray} {h : Nat} {B : BookS} {D : DiskS} {next : Nat} (m : SigMem n0 X w sg kb lg g b seed h B D next) :
    ∃ Y, KDisk n0 Y w b D ∧ (∀ x ∈ Y, x ∈ X ∨ (n0 ≤ x ∧ x < w.heap.size) ∨ x = kb ∨ x = lg) ∧ (∀ x ∈ X, x ∈ Y) ∧ (∀ x ∈ Y, x ∈ X ∨ x < w.heap.size) ∧
      ∀ w' D', KDisk n0 Y w' b D' → Turn (rest n0 Y) w w' → SigMem n0 X w' sg kb lg g b seed h B D' next := by
  obtain ⟨rv, k⟩ := m.book
  have hl := k.mem.lt
  have hs : sg < w.heap.size := (Array.getElem?_eq_some_iff.1 m.blk).1
  refine ⟨ownB rv ++ g :: sg :: kb :: lg :: X, k.disk, ?_, ?_, ?_, ?_⟩
  · intro x hx
    simp only [List.mem_append, List.mem_cons] at hx
    rcases hx with hx | rfl | rfl | rfl | rfl | hx
    · exact .inr (.inl ⟨(k.rn x (ownB_mem.1 hx)).1, hl.2 x (ownB_mem.1 hx)⟩)
    · exact .inr (.inl ⟨k.gn, hl.1⟩)
    · exact .inr (.inl ⟨m.own.1, hs⟩)
    · exact .inr (.inr (.inl rfl))
    · exact .inr (.inr (.inr rfl))
    · exact .inl hx
  · intro x hx; simp [hx]
  · intro x hx
    simp only [List.mem_append, List.mem_cons] at hx
    rcases hx with hx | rfl | rfl | rfl | rfl | hx
    · exact .inr (hl.2 x (ownB_mem.1 hx))
    · exact .inr hl.1
    · exact .inr hs
    · exact .inr m.key.lt.1
    · exact .inr m.key.lt.2
    · exact .inl hx
  · intro w' D' kd t
    have hno : ∀ x, x ∈ ownB rv ++ g :: sg :: kb :: lg :: X → ¬ rest n0 (ownB rv ++ g :: sg :: kb :: lg :: X) x := fun x hx q => q.2 hx
    refine ⟨t.heap m.blk (hno sg (by simp)), m.key.turn t (hno kb (by simp)) (hno lg (by simp)), ⟨rv, k.mem.turned t (hno g (by simp)) (fun x e => hno x (by simp [ownB_mem.2 e])), k.gn, k.gX, k.rn, kd⟩, m.own⟩
/-- blocks of the caller's own turn -/
theorem SigMem.aside {n0 : Nat} {X Y : List Nat} {S : Nat → Prop} {w w' : World} {sg kb lg g b : Nat} {seed : ByteArray} {h : Nat} {B : BookS} {D : DiskS} {next : Nat} (m : SigMem n0 X w sg kb lg g b seed h B D next) (t : Turn S w w') (hS : ∀ i, i < w.heap.size → S i → i ∈ X) (hk : ¬ S kb) (hg : ¬ S lg) (hs : ¬ S sg)
    (hY : ∀ i ∈ Y, i ∈ X ∨ (w.heap.size ≤ i ∧ i < w'.heap.size)) : SigMem n0 Y w' sg kb lg g b seed h B D next := by
  have hsl : sg < w.heap.size := (Array.getElem?_eq_some_iff.1 m.blk).1
  obtain ⟨rv, k⟩ := m.book
  have hl := k.mem.lt
  have hgS : ∀ i, i < w.heap.size → i ∉ sg :: kb :: lg :: X → ¬ S i := fun i hi hx q => hx (by simp [hS i hi q])
  refine ⟨t.heap m.blk hs, m.key.turn t hk hg, ⟨rv, k.mem.turned t (hgS g hl.1 k.gX) (fun x e => hgS x (hl.2 x e) (k.rn x e).2.1), k.gn, fun q => ?_, fun x e => ⟨(k.rn x e).1, fun q => ?_, (k.rn x e).2.2⟩, k.disk.turnMore t (fun i hi q => by simp [hS i hi q]) (fun i hi => ?_)⟩, m.own.1, fun q => ?_, m.own.2.2⟩
  · simp only [List.mem_cons] at q
    rcases q with q | q | q | q
    · exact k.gX (by simp [q])
    · exact k.gX (by simp [q])
    · exact k.gX (by simp [q])
    · rcases hY g q with q | q
      · exact k.gX (by simp [q])
      · have := hl.1; omega
  · simp only [List.mem_cons] at q
    have hx := (k.rn x e).2.1
    rcases q with q | q | q | q
    · exact hx (by simp [q])
    · exact hx (by simp [q])
    · exact hx (by simp [q])
    · rcases hY x q with q | q
      · exact hx (by simp [q])
      · have := hl.2 x e; omega
  · simp only [List.mem_append, List.mem_cons] at hi ⊢
    rcases hi with hi | hi | hi | hi | hi | hi
    · exact .inl (.inl hi)
    · exact .inl (.inr (.inl hi))
    · exact .inl (.inr (.inr (.inl hi)))
    · exact .inl (.inr (.inr (.inr (.inl hi))))
    · exact .inl (.inr (.inr (.inr (.inr (.inl hi)))))
    · rcases hY i hi with q | q
      · exact .inl (.inr (.inr (.inr (.inr (.inr q)))))
      · exact .inr q.1
  · rcases hY sg q with q | q
    · exact m.own.2.1 q
    · omega
end Go.Proofs.YtbakhdbnfmoceaaGreatDoor

namespace Go.Proofs.YtbakhdbnfmoceaaGreatDoor
open Go.RowKit
attribute [local irreducible] shaL

theorem opened_new (D : DiskS) (m t : Nat) (hS : StateD m t D) : bookOf D 1 4 = stB m ∧ nextE (bookOf D 1 4).recs = 0 ∧ nextN (bookOf D 1 4).recs = m := by
  have h := book_state D m t hS.last hS.wait hS.le hS.ne
  have h2 := st_next m hS.le
  rw [h]
  exact ⟨rfl, h2⟩
/-- what stays through a round: the messages' own blocks, the key, what was used -/
structure OnceS (n0 : Nat) (w0 wr : World) (PB kb lg : Nat) (uv : Value) (U : List Int) (m : Nat) : Prop where
  bel : Below n0 w0 wr
  pub : wr.heap[PB]? = some (.cells #[.string (openS seedQ), .string (rootK seedQ 3), .int .i64 3] 33 (0, 0))
  pn : n0 ≤ PB
  used : wr.ownsRow (PB + 1) 3 1 uv U.length (ints U)
  apart : ∀ x ∈ ownB uv, x ≠ kb ∧ x ≠ lg
  few : U.length ≤ m
  less : ∀ x ∈ U, x < (m : Int)
  incr : U.Pairwise (· < ·)
/-- at the loop's head -/
structure OnceAt (n0 : Nat) (w0 wr : World) (PB b sg kb lg g : Nat) (uv : Value) (U : List Int) (m t : Nat) (D : DiskS) : Prop where
  stay : OnceS n0 w0 wr PB kb lg uv U m
  sig : SigMem n0 (PB :: ownB uv) wr sg kb lg g b seedQ 3 (stB m) D m
  st : StateD m t D
  on : D.on = true
  fuse : D.fuse ≤ 3
  keep : D.keep.length ≤ 9223372036854775807
/-- behind the signature -/
structure OnceBe (n0 : Nat) (w0 wr : World) (PB b sg kb lg g : Nat) (uv : Value) (U : List Int) (m t : Nat) (B : BookS) (D : DiskS) (next : Nat) : Prop where
  stay : OnceS n0 w0 wr PB kb lg uv U m
  sig : SigMem n0 (PB :: ownB uv) wr sg kb lg g b seedQ 3 B D next
  st : StateD m t D
  fuse : D.fuse ≤ 3
  keep : D.keep.length ≤ 9223372036854775807
  live : D.on = true → B = stB m ∧ next = m
theorem OnceS.turn {n0 : Nat} {w0 wr w' : World} {PB kb lg : Nat} {uv : Value} {U : List Int} {m : Nat} (h : OnceS n0 w0 wr PB kb lg uv U m) (t : Turn (rest n0 (PB :: ownB uv)) wr w') : OnceS n0 w0 w' PB kb lg uv U m :=
  ⟨t.bel h.bel (by have := (Array.getElem?_eq_some_iff.1 h.pub).1; have := h.pn; omega), t.inX (by simp) h.pub, h.pn, own_turn h.used t (fun x e q => q.2 (by simp [ownB_mem.2 e])), h.apart, h.few, h.less, h.incr⟩
theorem OnceS.up {n0 : Nat} {w0 wr : World} {PB kb lg : Nat} {uv : Value} {U : List Int} {m m' : Nat} (h : OnceS n0 w0 wr PB kb lg uv U m) (hm : m ≤ m') : OnceS n0 w0 wr PB kb lg uv U m' :=
  ⟨h.bel, h.pub, h.pn, h.used, h.apart, Nat.le_trans h.few hm, fun x hx => by have := h.less x hx; omega, h.incr⟩
theorem OnceS.lt {n0 : Nat} {w0 wr : World} {PB kb lg : Nat} {uv : Value} {U : List Int} {m : Nat} (h : OnceS n0 w0 wr PB kb lg uv U m) : (∀ x ∈ PB :: ownB uv, x < wr.heap.size) ∧ n0 ≤ wr.heap.size ∧ PB ∉ ownB uv := by
  have h1 := (Array.getElem?_eq_some_iff.1 h.pub).1
  have h2 := h.pn
  refine ⟨fun x hx => ?_, by omega, fun q => ?_⟩
  · simp only [List.mem_cons] at hx
    rcases hx with rfl | hx
    · exact h1
    · exact (h.used.lt x (ownB_mem.1 hx)).2
  · have := (h.used.lt PB (ownB_mem.1 q)).1
    omega
/-- a world that only drew or grew -/
theorem OnceAt.grown {n0 : Nat} {w0 wr w' : World} {PB b sg kb lg g : Nat} {uv : Value} {U : List Int} {m t : Nat} {D : DiskS} (h : OnceAt n0 w0 wr PB b sg kb lg g uv U m t D) (k : wr.grownBy w' none) : OnceAt n0 w0 w' PB b sg kb lg g uv U m t D :=
  ⟨h.stay.turn (Turn.of_grown k), h.sig.more k (fun i hi => .inl hi), h.st, h.on, h.fuse, h.keep⟩
/-- a fuse is lit -/
theorem StateD.fused {m t : Nat} {D : DiskS} (h : StateD m t D) (n : Int) (ks : List UInt8) : StateD m t (fuseD D n ks) := by
  unfold fuseD
  split
  · exact ⟨h.last, h.wait, h.le, h.ne⟩
  · exact ⟨h.last, h.wait, h.le, h.ne⟩
theorem StateD.off {m t : Nat} {D : DiskS} (h : StateD m t D) (o : Bool) : StateD m t { cutD D [] with on := o } :=
  ⟨by show cutL D.last D.wait [] = _; rw [cutL_none]; exact h.last, rfl, h.le, h.ne⟩
theorem fuse_once (n0 : Nat) (w0 wr : World) (PB b sg kb lg g : Nat) (uv : Value) (U : List Int) (m t : Nat) (D : DiskS) (h : OnceAt n0 w0 wr PB b sg kb lg g uv U m t D) (n : Int) (hn : 0 ≤ n ∧ n ≤ 3) (a : Option Addr) (k c : Nat) (ks : List UInt8) (hb : BytesAt wr (.slice a k c) ks) (hkl : k ≤ 140737488351232) (hab : ∀ x o, a = some ⟨x, o, none⟩ → x < n0) (hkb : kb < wr.heap.size) :
    Calls Tryz.prog 9 #[.pointer (some ⟨b, 0, none⟩), .int .i64 n, .slice a k c] wr fun e w' => e = .returned (.tuple #[]) ∧ OnceAt n0 w0 w' PB b sg kb lg g uv U m t (fuseD D n ks) := by
  obtain ⟨Y, hd, h1, h2, h3, h4⟩ := h.sig.disked
  have hlt := h.stay.lt
  refine (fuse_k (n0 := n0) (X := Y) (fun x hx => ?_) hlt.2.1 n a k c ks hd hb hkl hab).mono ?_
  · rcases h3 x hx with q | q
    · exact hlt.1 x q
    · exact q
  · rintro e w' ⟨rfl, hd', t'⟩
    have hf : fuseD D n ks = { D with fuse := n, keep := ks } := if_pos hn.1
    have hks : ks.length = k := by obtain ⟨_, _, e, _⟩ := hb; injection e with _ e _; exact e.symm
    refine ⟨rfl, h.stay.turn (rest_mono h2 t'), h4 w' _ hd' t', h.st.fused n ks, ?_, ?_, ?_⟩
    · rw [hf]; exact h.on
    · rw [hf]; exact hn.2
    · rw [hf]; show ks.length ≤ _; omega
theorem cut_once (n0 : Nat) (w0 wr : World) (PB b sg kb lg g : Nat) (uv : Value) (U : List Int) (m t : Nat) (B : BookS) (D : DiskS) (next : Nat) (h : OnceBe n0 w0 wr PB b sg kb lg g uv U m t B D next) :
    Calls Tryz.prog 14 #[.pointer (some ⟨b, 0, none⟩), .slice none 0 0] wr fun e w' => e = .returned (.tuple #[]) ∧ OnceBe n0 w0 w' PB b sg kb lg g uv U m t B { cutD D [] with on := false } next := by
  obtain ⟨Y, hd, h1, h2, h3, h4⟩ := h.sig.disked
  refine (cut_k (n0 := n0) (X := Y) none 0 0 [] hd (by rw [h.st.last, state_len]; decide) ⟨none, 0, rfl, fun i hi => absurd hi (by simp)⟩ (by decide) (by rw [h.st.wait]; decide) (fun _ _ e => by cases e)).mono ?_
  rintro e w' ⟨rfl, hd', t'⟩
  refine ⟨rfl, h.stay.turn (rest_mono h2 t'), h4 w' _ hd' t', h.st.off false, by show (-1 : Int) ≤ 3; decide, by show 0 ≤ _; exact Nat.zero_le _, fun q => by cases q⟩
theorem start_once (n0 : Nat) (w0 wr : World) (PB b sg kb lg g : Nat) (uv : Value) (U : List Int) (m t : Nat) (B : BookS) (D : DiskS) (next : Nat) (h : OnceBe n0 w0 wr PB b sg kb lg g uv U m t B D next) :
    Calls Tryz.prog 15 #[.pointer (some ⟨b, 0, none⟩)] wr fun e w' => e = .returned (.tuple #[]) ∧ OnceS n0 w0 w' PB kb lg uv U m ∧ SigMem n0 (PB :: ownB uv) w' sg kb lg g b seedQ 3 B { D with on := true } next := by
  obtain ⟨Y, hd, h1, h2, h3, h4⟩ := h.sig.disked
  refine (start_k (n0 := n0) (X := Y) hd).mono ?_
  rintro e w' ⟨rfl, hd', t'⟩
  exact ⟨rfl, h.stay.turn (rest_mono h2 t'), h4 w' _ hd' t'⟩
/-- a signer is opened again -/
theorem open_once (n0 : Nat) (w0 wr : World) (PB b sg kb lg g : Nat) (uv : Value) (U : List Int) (m t : Nat) (B : BookS) (D : DiskS) (next : Nat) (h : OnceS n0 w0 wr PB kb lg uv U m) (hM : SigMem n0 (PB :: ownB uv) wr sg kb lg g b seedQ 3 B D next) (hS : StateD m t D) (hon : D.on = true) (hf : D.fuse ≤ 3) (hk : D.keep.length ≤ 9223372036854775807) (hr : ShaReady wr) :
    Calls Tryz.prog 7 #[.pointer (some ⟨b, 0, none⟩), .int .i64 1, .int .i64 8, .string seedQ, .int .i64 3] wr fun e w' => ∃ sg kb lg g, e = .returned (.tuple #[.pointer (some ⟨sg, 0, none⟩), .int .i64 0]) ∧ OnceAt n0 w0 w' PB b sg kb lg g uv U m t D := by
  obtain ⟨Y, hd, h1, h2, h3, h4⟩ := hM.disked
  have hlt := h.lt
  obtain ⟨o1, o2, o3⟩ := opened_new D m t hS
  have hd' : KDisk n0 (PB :: ownB uv) wr b D := hd.more (World.grownBy.refl _ _) (fun i hi => .inl (h2 i hi))
  have := sopen_full n0 (PB :: ownB uv) 10 wr b 1 8 4 D seedQ 3 (by decide) (by decide) hd' hlt.1 hlt.2.1 (by rw [hS.last, state_len]) (by decide) (by decide) (by decide) (by decide) hon (by rw [hS.wait]; exact Nat.zero_le _) hr
  rw [o2, o3, o1] at this
  refine this.mono ?_
  rintro e w' ⟨k, ⟨q, _⟩ | ⟨_, sg', kb', lg', g', rfl, hM', l1, l2, l3⟩⟩
  · exact absurd rfl q
  · have hs := h.turn (Turn.of_grown k)
    refine ⟨sg', kb', lg', g', rfl, ⟨hs.bel, hs.pub, hs.pn, hs.used, fun x hx => ?_, hs.few, hs.less, hs.incr⟩, hM', hS, hon, hf, hk⟩
    have := hlt.1 x (by simp [hx])
    omega
/-- one index more was used -/
theorem OnceS.add {n0 : Nat} {w0 wr w' : World} {PB sg kb lg g b : Nat} {uv uv' : Value} {U : List Int} {m next : Nat} {B : BookS} {D : DiskS} (h : OnceS n0 w0 wr PB kb lg uv U m) (hM : SigMem n0 (PB :: ownB uv) wr sg kb lg g b seedQ 3 B D next)
    (k : wr.grownBy w' uv.ownBlock) (hu : w'.ownsRow (PB + 1) 3 1 uv' (U ++ [(m : Int)]).length (ints (U ++ [(m : Int)]))) (hv : ∀ x, uv'.ownBlock = some x → uv.ownBlock = some x ∨ wr.heap.size ≤ x) :
    OnceS n0 w0 w' PB kb lg uv' (U ++ [(m : Int)]) (m + 1) ∧ SigMem n0 (PB :: ownB uv') w' sg kb lg g b seedQ 3 B D next := by
  have hlt := h.lt
  have hsg : sg < wr.heap.size := (Array.getElem?_eq_some_iff.1 hM.blk).1
  have hkl := hM.key.lt
  have t : Turn (fun i => i ∈ ownB uv) wr w' := (Turn.refl _ wr).row k (fun i _ e => ownB_mem.2 e)
  refine ⟨⟨?_, t.heap h.pub hlt.2.2, h.pn, hu, fun x hx => ?_, ?_, ?_, ?_⟩, ?_⟩
  · exact t.below h.bel hlt.2.1 (fun i hi q => by have := (h.used.lt i (ownB_mem.1 q)).1; have := h.pn; omega)
  · rcases hv x (ownB_mem.1 hx) with q | q
    · exact h.apart x (ownB_mem.2 q)
    · omega
  · have := h.few; simp; omega
  · intro x hx
    rcases List.mem_append.1 hx with hx | hx
    · have := h.less x hx; omega
    · rw [List.mem_singleton.1 hx]; omega
  · rw [List.pairwise_append]
    refine ⟨h.incr, List.pairwise_singleton _ _, fun a ha c hc => ?_⟩
    rw [List.mem_singleton.1 hc]
    exact h.less a ha
  · refine hM.aside t (fun i _ q => by simp [q]) (fun q => (h.apart kb q).1 rfl) (fun q => (h.apart lg q).2 rfl) (fun q => hM.own.2.1 (by simp [q])) (fun i hi => ?_)
    simp only [List.mem_cons] at hi ⊢
    rcases hi with hi | hi
    · exact .inl (.inl hi)
    · rcases hv i (ownB_mem.1 hi) with q | q
      · exact .inl (.inr (ownB_mem.2 q))
      · exact .inr ⟨q, (hu.lt i (ownB_mem.1 hi)).2⟩
/-- what Sign leaves: block SB is the signature that was told, f the error -/
def Signed (n0 : Nat) (w0 wy : World) (PB b sg kb lg g : Nat) (uv : Value) (U : List Int) (m SB : Nat) (tx : ByteArray) (f : Int) : Prop :=
  (8 ≤ m ∧ f = 11 ∧ wy.heap[SB]? = some (.cells #[.int .i64 0, .slice none 0 0, .slice none 0 0] 40 (0, 0)) ∧ ∃ t D, OnceAt n0 w0 wy PB b sg kb lg g uv U m t D)
  ∨ (m < 8 ∧ f = 0 ∧ ∃ ca cc pa pc t D, wy.heap[SB]? = some (.cells #[.int .i64 m, .slice ca 35 cc, .slice pa 3 pc] 40 (0, 0)) ∧ StrsAt wy (.slice ca 35 cc) (chainsS seedQ m tx) ∧ StrsAt wy (.slice pa 3 pc) (pathS 3 (leavesS seedQ 3) m) ∧ OnceS n0 w0 wy PB kb lg uv U m ∧
      SigMem n0 (PB :: ownB uv) wy sg kb lg g b seedQ 3 (stB (m + 1)) D (m + 1) ∧ StateD (m + 1) t D ∧ D.on = true ∧ D.fuse ≤ 3 ∧ D.keep.length ≤ 9223372036854775807 ∧ SB ∉ ownB uv ∧ (∀ x, (Value.slice ca 35 cc).ownBlock = some x → x ∉ ownB uv) ∧ (∀ x, (Value.slice pa 3 pc).ownBlock = some x → x ∉ ownB uv))
  ∨ (m < 8 ∧ f = 8 ∧ wy.heap[SB]? = some (.cells #[.int .i64 0, .slice none 0 0, .slice none 0 0] 40 (0, 0)) ∧ ∃ m' t' B D, m ≤ m' ∧ OnceBe n0 w0 wy PB b sg kb lg g uv U m' t' B D m)
theorem OnceAt.be {n0 : Nat} {w0 wr : World} {PB b sg kb lg g : Nat} {uv : Value} {U : List Int} {m t : Nat} {D : DiskS} (h : OnceAt n0 w0 wr PB b sg kb lg g uv U m t D) : OnceBe n0 w0 wr PB b sg kb lg g uv U m t (stB m) D m := ⟨h.stay, h.sig, h.st, h.fuse, h.keep, fun _ => ⟨rfl, rfl⟩⟩
theorem OnceBe.at_ {n0 : Nat} {w0 wr : World} {PB b sg kb lg g : Nat} {uv : Value} {U : List Int} {m t next : Nat} {B : BookS} {D : DiskS} (h : OnceBe n0 w0 wr PB b sg kb lg g uv U m t B D next) (hon : D.on = true) : OnceAt n0 w0 wr PB b sg kb lg g uv U m t D := by
  obtain ⟨rfl, rfl⟩ := h.live hon
  exact ⟨h.stay, h.sig, h.st, hon, h.fuse, h.keep⟩
theorem OnceBe.grown {n0 : Nat} {w0 wr w' : World} {PB b sg kb lg g : Nat} {uv : Value} {U : List Int} {m t next : Nat} {B : BookS} {D : DiskS} (h : OnceBe n0 w0 wr PB b sg kb lg g uv U m t B D next) (k : wr.grownBy w' none) : OnceBe n0 w0 w' PB b sg kb lg g uv U m t B D next :=
  ⟨h.stay.turn (Turn.of_grown k), h.sig.more k (fun i hi => .inl hi), h.st, h.fuse, h.keep, h.live⟩
/-- the three ways of Sign, with the told signature laid into a new block -/
theorem sign_once (n0 : Nat) (w0 wr : World) (PB b sg kb lg g : Nat) (uv : Value) (U : List Int) (m t : Nat) (D : DiskS) (h : OnceAt n0 w0 wr PB b sg kb lg g uv U m t D) (tx : ByteArray) (htx : tx.size ≤ 20) (hr : ShaReady wr) (hs : n0 ≤ 0 → False) (hrt : n0 ≤ 1 → False) :
    Calls Tryz.prog 11 #[.pointer (some ⟨sg, 0, none⟩), .string tx] wr fun e w' => ∃ (i : Int) (ca pa : Option Addr) (cn cc pn pc : Nat) (f : Int), e = .returned (.tuple #[.agg #[.int .i64 i, .slice ca cn cc, .slice pa pn pc], .int .i64 f]) ∧
      Signed n0 w0 (w'.alloc (.cells #[.int .i64 i, .slice ca cn cc, .slice pa pn pc] 40)) PB b sg kb lg g uv U m w'.heap.size tx f := by
  by_cases h8 : m < 8
  · have hlt := h.stay.lt
    have hsg := ssign_full n0 10 (PB :: ownB uv) wr sg kb lg g b seedQ tx 3 (stB m) D m h.sig (by decide) (by show m < 8; exact h8) hlt.1 hlt.2.1 (stB_ok m (by omega)) (by rw [h.st.last, state_len]) h.on (by rw [h.st.wait]; exact Nat.zero_le _) (by have := h.fuse; omega) h.keep hr hs hrt (by decide) (by omega)
    have hres := (reserve_state m t D h.st h8).done
    generalize reserveS (stB m) D (m + 1) = R at hsg hres
    refine hsg.mono ?_
    rintro e w7 ⟨t7, ⟨hR, rfl, hM7⟩ | ⟨hR, c, p, rfl, hc7, hp7, hM7, hcn, hpn⟩⟩
    · rcases hres with ⟨q0, _⟩ | ⟨q0, q1, q2, q3, m', t', q4, q5⟩
      · exact absurd q0 hR
      · rw [q0]
        refine ⟨0, none, none, 0, 0, 0, 0, 8, rfl, .inr (.inr ⟨h8, rfl, heap_alloc_at _ _ _ rfl, m', t', R.2.1, R.2.2, by omega, ?_⟩)⟩
        have hb : OnceBe n0 w0 w7 PB b sg kb lg g uv U m' t' R.2.1 R.2.2 m := ⟨(h.stay.turn t7).up (by omega), hM7, q5, by rw [q2]; decide, by rw [q3]; exact Nat.zero_le _, fun q => by rw [q1] at q; cases q⟩
        exact hb.grown (World.grownBy_alloc _ _ _)
    · rcases hres with ⟨q0, q1, q2, q3, q4, q5⟩ | ⟨q0, _⟩
      · obtain ⟨ca, cc, rfl⟩ := hc7.form
        obtain ⟨pa, pc, rfl⟩ := hp7.form
        rw [chains_35] at hc7 hcn ⊢
        rw [pathS_length] at hp7 hpn ⊢
        have hg := World.grownBy_alloc w7 (.cells #[.int .i64 m, .slice ca 35 cc, .slice pa 3 pc] 40) none
        have hst := h.stay.turn t7
        have hl7 := hst.lt
        rw [q1] at hM7
        refine ⟨m, ca, pa, 35, cc, 3, pc, 0, rfl, .inr (.inl ⟨h8, rfl, ca, cc, pa, pc, 0, R.2.2, heap_alloc_at _ _ _ rfl, hc7.grown hg, hp7.grown hg, hst.turn (Turn.of_grown hg), hM7.more hg (fun i hi => .inl ?_), q2, q3.trans h.on, ?_, by rw [q4]; exact h.keep, ?_, ?_, ?_⟩)⟩
        · simp only [List.mem_append]
          exact .inr hi
        · have := h.fuse; omega
        · intro q
          have := hl7.1 _ (List.mem_cons_of_mem _ q)
          omega
        · intro x e q
          have h1 := hcn x (ownB_mem.2 e)
          have h2 := hlt.1 x (List.mem_cons_of_mem _ q)
          omega
        · intro x e q
          have h1 := hpn x (ownB_mem.2 e)
          have h2 := hlt.1 x (List.mem_cons_of_mem _ q)
          omega
      · rw [hR] at q0
        cases q0
  · refine (ssign_spent n0 (PB :: ownB uv) wr sg kb lg g b seedQ tx 3 8 (stB m) D m h.sig rfl (by omega)).mono ?_
    rintro e w7 ⟨rfl, g7⟩
    exact ⟨0, none, none, 0, 0, 0, 0, 11, rfl, .inl ⟨by omega, rfl, heap_alloc_at _ _ _ rfl, t, D, (h.grown g7).grown (World.grownBy_alloc _ _ _)⟩⟩
end Go.Proofs.YtbakhdbnfmoceaaGreatDoor
