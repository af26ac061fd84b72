/- What a disk of sectors holds in memory; worlds that turn but in some blocks. No walk. -/
import Derived.Test.YtfomchkmedoenaaSecSpec
import Derived.Test.YtfomchkmedoenaaTurn
import Derived.Test.YtfomchkmedoenaaBytes
import Derived.Deep.MidRow
namespace Go.Proofs.Ytfomchkmedoenaa
open Go.RowKit

/-- the cells of a writing -/
def wcells (x : Nat × List UInt8) : List Value := .int .i64 (x.1 : Nat) :: bytesV x.2
theorem bytesV_length (l : List UInt8) : (bytesV l).length = l.length := by simp [bytesV]
theorem bytesV_append (a b : List UInt8) : bytesV (a ++ b) = bytesV a ++ bytesV b := by simp [bytesV]
theorem bytesV_take (l : List UInt8) (k : Nat) : (bytesV l).take k = bytesV (l.take k) := by simp [bytesV]
theorem bytesV_drop (l : List UInt8) (k : Nat) : (bytesV l).drop k = bytesV (l.drop k) := by simp [bytesV]
theorem bytesV_one (l : List UInt8) : ∀ v ∈ bytesV l, v.oneCell' = true := by
  intro v hv
  obtain ⟨c, _, rfl⟩ := List.mem_map.1 hv
  rfl
theorem wcells_length (x : Nat × List UInt8) (h : x.2.length = 64) : (wcells x).length = 65 := by simp [wcells, bytesV_length, h]
theorem wcells_one (x : Nat × List UInt8) : ∀ v ∈ wcells x, v.oneCell' = true := by
  intro v hv
  rcases List.mem_cons.1 hv with rfl | h
  · rfl
  · exact bytesV_one _ v h
def wflat (l : List (Nat × List UInt8)) : List Value := l.flatMap wcells
theorem wflat_snoc (l : List (Nat × List UInt8)) (x : Nat × List UInt8) : wflat (l ++ [x]) = wflat l ++ wcells x := by simp [wflat]
theorem wflat_length {n : Nat} : ∀ (l : List (Nat × List UInt8)), Waits n l → (wflat l).length = l.length * 65
  | [], _ => rfl
  | x :: r, h => by
    show (wcells x ++ wflat r).length = _
    rw [List.length_append, wcells_length x (h x (by simp)).2, wflat_length r (fun y hy => h y (by simp [hy])), List.length_cons]
    omega
theorem wflat_at {n : Nat} : ∀ (l : List (Nat × List UInt8)), Waits n l → ∀ (k : Nat) (hk : k < l.length) (j : Nat), j < 65 → (wflat l)[k * 65 + j]? = (wcells l[k])[j]?
  | [], _, k, hk, _, _ => by simp at hk
  | x :: r, h, k, hk, j, hj => by
    show (wcells x ++ wflat r)[_]? = _
    have hx := wcells_length x (h x (by simp)).2
    cases k with
    | zero => rw [List.getElem?_append_left (by omega), Nat.zero_mul, Nat.zero_add]; rfl
    | succ k =>
      rw [List.getElem?_append_right (by omega), hx, show (k + 1) * 65 + j - 65 = k * 65 + j from by omega, wflat_at r (fun y hy => h y (by simp [hy])) k (by simpa using hk) j hj]
      rfl
def sflat (l : List (List UInt8)) : List UInt8 := l.flatten
theorem sflat_length : ∀ (l : List (List UInt8)), Secs l → (sflat l).length = l.length * 64
  | [], _ => rfl
  | x :: r, h => by
    show (x ++ sflat r).length = _
    rw [List.length_append, h x (by simp), sflat_length r (fun y hy => h y (by simp [hy])), List.length_cons]
    omega
theorem sflat_mid : ∀ (l : List (List UInt8)), Secs l → ∀ (k : Nat) (hk : k < l.length), sflat l = (sflat l).take (k * 64) ++ (l[k] ++ (sflat l).drop (k * 64 + 64))
  | [], _, k, hk => by simp at hk
  | x :: r, h, k, hk => by
    have hx := h x (by simp)
    show x ++ sflat r = (x ++ sflat r).take _ ++ (_ ++ (x ++ sflat r).drop _)
    cases k with
    | zero =>
      rw [Nat.zero_mul, List.take_zero, List.nil_append, List.drop_append, List.drop_of_length_le (by omega : x.length ≤ 0 + 64), List.nil_append, show 0 + 64 - x.length = 0 from by omega, List.drop_zero]
      rfl
    | succ k =>
      have ih := sflat_mid r (fun y hy => h y (by simp [hy])) k (by simpa using hk)
      rw [List.take_append, List.take_of_length_le (by omega : x.length ≤ (k + 1) * 64), List.drop_append, List.drop_of_length_le (by omega : x.length ≤ (k + 1) * 64 + 64), List.nil_append,
        show (k + 1) * 64 - x.length = k * 64 from by omega, show (k + 1) * 64 + 64 - x.length = k * 64 + 64 from by omega, List.append_assoc]
      exact congrArg (x ++ ·) ih
theorem sflat_set : ∀ (l : List (List UInt8)), Secs l → ∀ (k : Nat) (_ : k < l.length) (s : List UInt8), sflat (l.set k s) = (sflat l).take (k * 64) ++ (s ++ (sflat l).drop (k * 64 + 64))
  | [], _, k, hk, _ => by simp at hk
  | x :: r, h, k, hk, s => by
    have hx := h x (by simp)
    cases k with
    | zero =>
      show s ++ sflat r = (x ++ sflat r).take _ ++ (_ ++ (x ++ sflat r).drop _)
      rw [Nat.zero_mul, List.take_zero, List.nil_append, List.drop_append, List.drop_of_length_le (by omega : x.length ≤ 0 + 64), List.nil_append, show 0 + 64 - x.length = 0 from by omega, List.drop_zero]
    | succ k =>
      show x ++ sflat (r.set k s) = (x ++ sflat r).take _ ++ (_ ++ (x ++ sflat r).drop _)
      have ih := sflat_set r (fun y hy => h y (by simp [hy])) k (by simpa using hk) s
      rw [List.take_append, List.take_of_length_le (by omega : x.length ≤ (k + 1) * 64), List.drop_append, List.drop_of_length_le (by omega : x.length ≤ (k + 1) * 64 + 64), List.nil_append,
        show (k + 1) * 64 - x.length = k * 64 from by omega, show (k + 1) * 64 + 64 - x.length = k * 64 + 64 from by omega, List.append_assoc]
      exact congrArg (x ++ ·) ih
theorem sflat_at (l : List (List UInt8)) (h : Secs l) (k : Nat) (hk : k < l.length) (j : Nat) (hj : j < 64) : (sflat l)[k * 64 + j]? = (l[k])[j]? := by
  have hs := h l[k] (List.getElem_mem hk)
  have hl := sflat_length l h
  rw [sflat_mid l h k hk, List.getElem?_append_right (by rw [List.length_take]; omega), List.getElem?_append_left (by rw [List.length_take]; omega), List.length_take, Nat.min_eq_left (by omega), Nat.add_sub_cancel_left]

/-- an own row, and what is spare behind it -/
theorem own_block {w : World} {B : Nat} {e : TypeId} {size g n cap : Nat} {xs : List Value} (h : w.ownsRow B e size (.slice (some ⟨g, 0, none⟩) n cap) n xs) :
    ∃ rest : List Value, w.heap[g]? = some (.cells (xs ++ rest).toArray e (0, 0)) ∧ (xs ++ rest).length = cap * size ∧ xs.length = n * size ∧ n ≤ cap ∧ cap ≤ maxLen ∧ B ≤ g := by
  obtain ⟨hl, h⟩ := h
  rcases h with ⟨h', _⟩ | ⟨g', cap', cur, h', hb, hg, hnc, hm, hcs, htake⟩
  · cases h'
  · cases h'
    refine ⟨cur.toList.drop (n * size), ?_, ?_, hl, hnc, hm, hb⟩
    · rw [← htake, List.take_append_drop]; exact hg
    · rw [← htake, List.take_append_drop]; simpa using hcs
theorem own_of {w : World} {B : Nat} {e : TypeId} {size g n cap : Nat} {xs rest : List Value} (h : w.heap[g]? = some (.cells (xs ++ rest).toArray e (0, 0))) (hz : (xs ++ rest).length = cap * size) (hl : xs.length = n * size) (hc : n ≤ cap) (hm : cap ≤ maxLen) (hb : B ≤ g) :
    w.ownsRow B e size (.slice (some ⟨g, 0, none⟩) n cap) n xs :=
  ⟨hl, .inr ⟨g, cap, _, rfl, hb, h, hc, hm, by simpa using hz, by rw [← hl]; simp⟩⟩
theorem own_form {w : World} {B : Nat} {e : TypeId} {size n : Nat} {v : Value} {xs : List Value} (h : w.ownsRow B e size v n xs) : (v = .slice none 0 0 ∧ n = 0) ∨ ∃ g cap, v = .slice (some ⟨g, 0, none⟩) n cap := by
  rcases h.2 with h | ⟨g, cap, _, h, _⟩
  · exact .inl h
  · exact .inr ⟨g, cap, h⟩

/-- block b is a disk that holds D: lv, wv, kv are its three slices -/
structure DiskMem (w : World) (b : Nat) (D : DiskS) (lv wv kv : Value) : Prop where
  disk : w.heap[b]? = some (.cells #[lv, wv, .bool D.on, .int .i64 D.fuse, kv] 49 (0, 0))
  last : w.ownsRow 0 55 64 lv D.last.length (bytesV (sflat D.last))
  wait : w.ownsRow 0 57 65 wv D.wait.length (wflat D.wait)
  keep : w.ownsRow 0 5 1 kv D.keep.length (bytesV D.keep)
  secs : Secs D.last
  waits : Waits D.last.length D.wait
  lb : lv.ownBlock ≠ some b
  wb : wv.ownBlock ≠ some b
  kb : kv.ownBlock ≠ some b
  lw : ∀ g, lv.ownBlock = some g → wv.ownBlock ≠ some g
  lk : ∀ g, lv.ownBlock = some g → kv.ownBlock ≠ some g
  wk : ∀ g, wv.ownBlock = some g → kv.ownBlock ≠ some g
/-- block b is a disk that holds D, all of whose blocks are in F -/
def DiskAt (F : Nat → Prop) (w : World) (b : Nat) (D : DiskS) : Prop :=
  ∃ lv wv kv, DiskMem w b D lv wv kv ∧ F b ∧ (∀ g, lv.ownBlock = some g → F g) ∧ (∀ g, wv.ownBlock = some g → F g) ∧ ∀ g, kv.ownBlock = some g → F g
theorem DiskMem.turn {S : Nat → Prop} {w w' : World} {b : Nat} {D : DiskS} {lv wv kv : Value} (h : DiskMem w b D lv wv kv) (k : Turn S w w') (hb : ¬ S b) (hl : ∀ g, lv.ownBlock = some g → ¬ S g) (hw : ∀ g, wv.ownBlock = some g → ¬ S g) (hk : ∀ g, kv.ownBlock = some g → ¬ S g) : DiskMem w' b D lv wv kv :=
  ⟨k.heap h.disk hb, own_turn h.last k hl, own_turn h.wait k hw, own_turn h.keep k hk, h.secs, h.waits, h.lb, h.wb, h.kb, h.lw, h.lk, h.wk⟩
theorem DiskMem.lt {w : World} {b : Nat} {D : DiskS} {lv wv kv : Value} (h : DiskMem w b D lv wv kv) : b < w.heap.size := (Array.getElem?_eq_some_iff.1 h.disk).1
theorem DiskAt.turn {F S : Nat → Prop} {w w' : World} {b : Nat} {D : DiskS} (h : DiskAt F w b D) (k : Turn S w w') (hF : ∀ i, i < w.heap.size → F i → ¬ S i) : DiskAt F w' b D := by
  obtain ⟨lv, wv, kv, m, f1, f2, f3, f4⟩ := h
  exact ⟨lv, wv, kv, m.turn k (hF _ m.lt f1) (fun g e => hF g (m.last.lt g e).2 (f2 g e)) (fun g e => hF g (m.wait.lt g e).2 (f3 g e)) (fun g e => hF g (m.keep.lt g e).2 (f4 g e)), f1, f2, f3, f4⟩
theorem DiskAt.grown {F : Nat → Prop} {w w' : World} {b : Nat} {D : DiskS} (h : DiskAt F w b D) (k : w.grownBy w' none) : DiskAt F w' b D := h.turn (S := fun _ => False) (Turn.of_grown k) (fun _ _ _ q => q)
theorem DiskAt.mono {F G : Nat → Prop} {w : World} {b : Nat} {D : DiskS} (h : DiskAt F w b D) (hF : ∀ i, i < w.heap.size → F i → G i) : DiskAt G w b D := by
  obtain ⟨lv, wv, kv, m, f1, f2, f3, f4⟩ := h
  exact ⟨lv, wv, kv, m, hF _ m.lt f1, fun g e => hF g (m.last.lt g e).2 (f2 g e), fun g e => hF g (m.wait.lt g e).2 (f3 g e), fun g e => hF g (m.keep.lt g e).2 (f4 g e)⟩
theorem DiskAt.lt {F : Nat → Prop} {w : World} {b : Nat} {D : DiskS} (h : DiskAt F w b D) : b < w.heap.size := by obtain ⟨_, _, _, m, _⟩ := h; exact m.lt
theorem DiskAt.own {F : Nat → Prop} {w : World} {b : Nat} {D : DiskS} (h : DiskAt F w b D) : F b := by obtain ⟨_, _, _, _, f, _⟩ := h; exact f
end Go.Proofs.Ytfomchkmedoenaa
