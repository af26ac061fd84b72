/- Plain functions for disks of sectors. Nothing here names the program. -/
import Derived.WalkKit
namespace Go.Proofs.Ytfomchkmedoenaa

/-- noughts -/
def zeros (n : Nat) : List UInt8 := List.replicate n 0
/-- a text with noughts behind: 64 bytes -/
def fullL (l : List UInt8) : List UInt8 := l ++ zeros (64 - l.length)
theorem fullL_length (l : List UInt8) (h : l.length ≤ 64) : (fullL l).length = 64 := by simp [fullL, zeros]; omega
/-- the first k bytes of the new over the old -/
def tornL (old new : List UInt8) (k : Nat) : List UInt8 := new.take k ++ old.drop k
theorem tornL_length (old new : List UInt8) (k : Nat) (h : old.length = 64) (h2 : new.length = 64) : (tornL old new k).length = 64 := by simp [tornL]; omega

structure DiskS where
  last : List (List UInt8)
  wait : List (Nat × List UInt8)
  on : Bool
  fuse : Int
  keep : List UInt8

/-- what lasts behind a Sync -/
def syncL : List (List UInt8) → List (Nat × List UInt8) → List (List UInt8)
  | l, [] => l
  | l, x :: r => syncL (l.set x.1 x.2) r
/-- what lasts behind a Cut -/
def cutL : List (List UInt8) → List (Nat × List UInt8) → List UInt8 → List (List UInt8)
  | l, [], _ => l
  | l, _ :: _, [] => l
  | l, x :: r, k :: ks => cutL (l.set x.1 (tornL (l.getD x.1 []) x.2 (min k.toNat 64))) r ks
/-- the last writing of a sector -/
def lastOf : List (Nat × List UInt8) → Nat → Option (List UInt8)
  | [], _ => none
  | x :: r, i => match lastOf r i with
    | some s => some s
    | none => if x.1 = i then some x.2 else none
def readL (last : List (List UInt8)) (wait : List (Nat × List UInt8)) (i : Nat) : List UInt8 := (lastOf wait i).getD (last.getD i [])

/-- sectors of 64 bytes -/
def Secs (l : List (List UInt8)) : Prop := ∀ s ∈ l, s.length = 64
/-- writings that may wait -/
def Waits (n : Nat) (l : List (Nat × List UInt8)) : Prop := ∀ x ∈ l, x.1 < n ∧ x.2.length = 64

theorem Secs.set {l : List (List UInt8)} (h : Secs l) (i : Nat) {s : List UInt8} (hs : s.length = 64) : Secs (l.set i s) := by
  intro x hx
  rcases List.mem_or_eq_of_mem_set hx with h1 | rfl
  · exact h x h1
  · exact hs
theorem Secs.at {l : List (List UInt8)} (h : Secs l) {i : Nat} (hi : i < l.length) : (l.getD i []).length = 64 := by
  rw [List.getD_eq_getElem?_getD, List.getElem?_eq_getElem hi]
  exact h _ (List.getElem_mem hi)
theorem Waits.snoc {n : Nat} {l : List (Nat × List UInt8)} (h : Waits n l) {i : Nat} (hi : i < n) {s : List UInt8} (hs : s.length = 64) : Waits n (l ++ [(i, s)]) := by
  intro x hx
  rcases List.mem_append.1 hx with h1 | h1
  · exact h x h1
  · rw [List.mem_singleton.1 h1]; exact ⟨hi, hs⟩
theorem syncL_length : ∀ (w : List (Nat × List UInt8)) (l : List (List UInt8)), (syncL l w).length = l.length
  | [], _ => rfl
  | x :: r, l => by rw [syncL, syncL_length r]; simp
theorem syncL_secs {n : Nat} : ∀ (w : List (Nat × List UInt8)) (l : List (List UInt8)), Secs l → Waits n w → Secs (syncL l w)
  | [], _, h, _ => h
  | x :: r, l, h, hw => by rw [syncL]; exact syncL_secs (n := n) r _ (h.set _ (hw x (by simp)).2) (fun y hy => hw y (by simp [hy]))
theorem syncL_snoc (w : List (Nat × List UInt8)) (x : Nat × List UInt8) : ∀ l : List (List UInt8), syncL l (w ++ [x]) = (syncL l w).set x.1 x.2 := by
  induction w with
  | nil => intro l; rfl
  | cons y r ih => intro l; rw [List.cons_append, syncL, ih, syncL]
theorem cutL_length : ∀ (w : List (Nat × List UInt8)) (ks : List UInt8) (l : List (List UInt8)), (cutL l w ks).length = l.length
  | [], _, _ => by rw [cutL]
  | _ :: _, [], _ => by rw [cutL]
  | x :: r, k :: ks, l => by rw [cutL, cutL_length r]; simp
theorem cutL_secs {n : Nat} : ∀ (w : List (Nat × List UInt8)) (ks : List UInt8) (l : List (List UInt8)), l.length = n → Secs l → Waits n w → Secs (cutL l w ks)
  | [], _, _, _, h, _ => by rw [cutL]; exact h
  | _ :: _, [], _, _, h, _ => by rw [cutL]; exact h
  | x :: r, k :: ks, l, hn, h, hw => by
    rw [cutL]
    have hx := hw x (by simp)
    exact cutL_secs r ks _ (by simpa using hn) (h.set _ (tornL_length _ _ _ (h.at (by omega)) hx.2)) (fun y hy => hw y (by simp [hy]))
theorem cutL_none (l : List (List UInt8)) (w : List (Nat × List UInt8)) : cutL l w [] = l := by cases w <;> rw [cutL]
theorem lastOf_snoc (w : List (Nat × List UInt8)) (x : Nat × List UInt8) (i : Nat) : lastOf (w ++ [x]) i = if x.1 = i then some x.2 else lastOf w i := by
  induction w with
  | nil => simp [lastOf]
  | cons y r ih =>
    rw [List.cons_append, lastOf, ih]
    by_cases h : x.1 = i
    · simp [h]
    · simp only [h, if_false]; rfl
theorem lastOf_len {n : Nat} : ∀ (w : List (Nat × List UInt8)) (i : Nat) (s : List UInt8), Waits n w → lastOf w i = some s → s.length = 64
  | [], _, _, _, h => by simp [lastOf] at h
  | x :: r, i, s, hw, h => by
    rw [lastOf] at h
    cases e : lastOf r i with
    | some t => rw [e] at h; simp at h; subst h; exact lastOf_len r i t (fun y hy => hw y (by simp [hy])) e
    | none => rw [e] at h; simp at h; rw [← h.2]; exact (hw x (by simp)).2
theorem readL_length {n : Nat} {last : List (List UInt8)} {wait : List (Nat × List UInt8)} (h : Secs last) (hn : last.length = n) (hw : Waits n wait) {i : Nat} (hi : i < n) : (readL last wait i).length = 64 := by
  unfold readL
  cases e : lastOf wait i with
  | some s => exact lastOf_len wait i s hw e
  | none => exact h.at (by omega)

/-! ### By numbers from the end: what a walk from the last one on has seen -/
/-- m - 1, m - 2, .. : k of them -/
def downs (m : Nat) (k : Nat) : List Nat := (List.range k).map fun j => m - 1 - j
theorem downs_succ (m k : Nat) : downs m (k + 1) = downs m k ++ [m - 1 - k] := by simp [downs, List.range_succ]
theorem downs_length (m k : Nat) : (downs m k).length = k := by simp [downs]
theorem downs_prefix (m k : Nat) (h : k ≤ m) : downs m k <+: downs m m := by
  have : ∀ j, downs m k <+: downs m (k + j) := by
    intro j
    induction j with
    | zero => exact List.prefix_refl _
    | succ j ih => rw [show k + (j + 1) = (k + j) + 1 from by omega, downs_succ]; exact ih.trans (List.prefix_append _ _)
  have := this (m - k)
  rwa [show k + (m - k) = m from by omega] at this
theorem lastOf_take (w : List (Nat × List UInt8)) (i : Nat) : ∀ j, j ≤ w.length → (∀ x, j ≤ x → x < w.length → (w.getD x (0, [])).1 ≠ i) → lastOf w i = lastOf (w.take j) i := by
  intro j hj
  induction hn : w.length - j generalizing j with
  | zero => intro _; rw [List.take_of_length_le (by omega)]
  | succ n ih =>
    intro h
    rw [ih (j + 1) (by omega) (by omega) (fun x hx hx2 => h x (by omega) hx2)]
    have hlt : j < w.length := by omega
    rw [← List.take_append_getElem hlt, lastOf_snoc, if_neg]
    have := h j (Nat.le_refl _) hlt
    rwa [List.getD_eq_getElem?_getD, List.getElem?_eq_getElem hlt] at this
/-- none of them all -/
theorem readL_none (last : List (List UInt8)) (w : List (Nat × List UInt8)) (i : Nat) (h : ∀ k ∈ downs w.length w.length, (w.getD k (0, [])).1 ≠ i) : readL last w i = last.getD i [] := by
  unfold readL
  rw [lastOf_take w i 0 (by omega) (fun x _ hx => h x (List.mem_map.2 ⟨w.length - 1 - x, List.mem_range.2 (by omega), by omega⟩))]
  rfl
/-- the first that is met -/
theorem readL_found (last : List (List UInt8)) (w : List (Nat × List UInt8)) (i k : Nat) (hk : k < w.length) (h : ∀ j ∈ downs w.length k, (w.getD j (0, [])).1 ≠ i) (hi : (w.getD (w.length - 1 - k) (0, [])).1 = i) : readL last w i = (w.getD (w.length - 1 - k) (0, [])).2 := by
  unfold readL
  have hlt : w.length - 1 - k < w.length := by omega
  rw [lastOf_take w i (w.length - 1 - k + 1) (by omega) (fun x hx hx2 => h x (List.mem_map.2 ⟨w.length - 1 - x, List.mem_range.2 (by omega), by omega⟩))]
  have e : w.getD (w.length - 1 - k) (0, []) = w[w.length - 1 - k] := by rw [List.getD_eq_getElem?_getD, List.getElem?_eq_getElem hlt]; rfl
  rw [e] at hi ⊢
  rw [← List.take_append_getElem hlt, lastOf_snoc, if_pos hi]
  rfl

/-! ### A Cut, writing by writing -/
theorem cutL_snoc : ∀ (w : List (Nat × List UInt8)) (x : Nat × List UInt8) (ks : List UInt8) (l : List (List UInt8)) (h : w.length < ks.length),
    cutL l (w ++ [x]) ks = (cutL l w ks).set x.1 (tornL ((cutL l w ks).getD x.1 []) x.2 (min (ks[w.length]).toNat 64))
  | [], x, k :: ks, l, _ => by rw [List.nil_append, cutL, cutL, cutL]; rfl
  | y :: r, x, k :: ks, l, h => by
    rw [List.cons_append, cutL, cutL, cutL_snoc r x ks _ (by simpa using h)]
    rfl
theorem cutL_take : ∀ (w : List (Nat × List UInt8)) (ks : List UInt8) (l : List (List UInt8)), cutL l (w.take (min ks.length w.length)) ks = cutL l w ks
  | [], ks, l => by simp
  | _ :: _, [], l => by simp [cutL]
  | y :: r, k :: ks, l => by
    rw [show min (k :: ks).length (y :: r).length = min ks.length r.length + 1 from by simp, List.take_succ_cons, cutL, cutL, cutL_take r ks]
end Go.Proofs.Ytfomchkmedoenaa
