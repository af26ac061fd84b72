/- What a disk of sectors holds in memory; worlds that turn but in some blocks. No walk. -/
import Derived.Test.YtbakhdbnfmoceaaGreatDoorSecSpec
import Derived.Test.YtbakhdbnfmoceaaGreatDoorMem
import Derived.Test.YtbakhdbnfmoceaaGreatDoorBytes
import Derived.Deep.MidRow
namespace Go.Proofs.YtbakhdbnfmoceaaGreatDoor
open Go.RowKit

/-- w' is as w was, but for the blocks of S, and new ones -/
structure Turn (S : Nat → Prop) (w w' : World) : Prop where
  os : w'.os = w.os
  tape : w'.tape = w.tape
  output : w'.output = w.output
  size : w.heap.size ≤ w'.heap.size
  block : ∀ i, i < w.heap.size → ¬ S i → w'.heap[i]? = w.heap[i]?
/-- the blocks that were made between two worlds -/
def madeIn (w w' : World) (i : Nat) : Prop := w.heap.size ≤ i ∧ i < w'.heap.size
theorem Turn.refl (S : Nat → Prop) (w : World) : Turn S w w := ⟨rfl, rfl, rfl, Nat.le_refl _, fun _ _ _ => rfl⟩
theorem Turn.mono {S T : Nat → Prop} {w w' : World} (h : Turn S w w') (hs : ∀ i, i < w.heap.size → S i → T i) : Turn T w w' := ⟨h.os, h.tape, h.output, h.size, fun i hi hn => h.block i hi (fun q => hn (hs i hi q))⟩
theorem Turn.trans {S T : Nat → Prop} {a b c : World} (h : Turn S a b) (k : Turn T b c) (hs : ∀ i, i < a.heap.size → T i → S i) : Turn S a c :=
  ⟨k.os.trans h.os, k.tape.trans h.tape, k.output.trans h.output, Nat.le_trans h.size k.size, fun i hi hn => (k.block i (Nat.lt_of_lt_of_le hi h.size) (fun q => hn (hs i hi q))).trans (h.block i hi hn)⟩
theorem Turn.then {S : Nat → Prop} {a b c : World} (h : Turn S a b) (k : Turn S b c) : Turn S a c := h.trans k (fun _ _ q => q)
theorem Turn.grown {S : Nat → Prop} {a b c : World} (h : Turn S a b) (k : b.grownBy c none) : Turn S a c := h.then ⟨k.os, k.tape, k.output, k.size, fun i hi _ => k.block i hi (by simp)⟩
theorem Turn.of_grown {S : Nat → Prop} {a b : World} (k : a.grownBy b none) : Turn S a b := (Turn.refl S a).grown k
theorem Turn.row {S : Nat → Prop} {a b c : World} (h : Turn S a b) {row : Option Nat} (k : b.grownBy c row) (hs : ∀ i, i < a.heap.size → row = some i → S i) : Turn S a c :=
  h.trans (T := fun i => row = some i) ⟨k.os, k.tape, k.output, k.size, fun i hi hn => k.block i hi (fun e => hn e.symm)⟩ hs
theorem Turn.drew {S : Nat → Prop} {a b : World} (h : Turn S a b) : Turn S a b.drew := ⟨h.os, h.tape, h.output, h.size, h.block⟩
theorem Turn.alloc {S : Nat → Prop} {a b : World} (h : Turn S a b) (o : Obj) : Turn S a (b.alloc o) := h.grown (World.grownBy_alloc b o none)
theorem Turn.setCell {S : Nat → Prop} {a b : World} (h : Turn S a b) {k : Nat} (hk : k < a.heap.size → S k) (o : Nat) (u : Value) : Turn S a (b.setCell ⟨k, o, none⟩ u) :=
  ⟨h.os, h.tape, h.output, by rw [size_setCell]; exact h.size, fun i hi hn => by rw [heap_setCell_ne _ _ _ _ (fun e => hn (by rw [← e]; exact hk (by omega)))]; exact h.block i hi hn⟩
theorem Turn.setCells {S : Nat → Prop} {a b : World} (h : Turn S a b) {k : Nat} (hk : k < a.heap.size → S k) (o : Nat) (vs : List Value) : Turn S a (b.setCells k o vs) :=
  ⟨by rw [← h.os]; induction vs generalizing o b with | nil => rfl | cons v r ih => exact ih (b := b.setCell _ v) (h.setCell hk o v) _,
   by rw [← h.tape]; induction vs generalizing o b with | nil => rfl | cons v r ih => exact ih (b := b.setCell _ v) (h.setCell hk o v) _,
   by rw [← h.output]; induction vs generalizing o b with | nil => rfl | cons v r ih => exact ih (b := b.setCell _ v) (h.setCell hk o v) _,
   by rw [size_setCells]; exact h.size, fun i hi hn => by rw [heap_setCells_ne (fun e => hn (by rw [← e]; exact hk (by omega)))]; exact h.block i hi hn⟩
theorem Turn.below {S : Nat → Prop} {B : Nat} {w0 w w' : World} (h : Below B w0 w) (k : Turn S w w') (hB : B ≤ w.heap.size) (hs : ∀ i, i < B → ¬ S i) : Below B w0 w' :=
  ⟨k.os.trans h.os, k.tape.trans h.tape, k.output.trans h.output, Nat.le_trans h.size k.size, fun i hi => (k.block i (Nat.lt_of_lt_of_le hi hB) (hs i hi)).trans (h.block i hi)⟩
theorem Turn.cell {S : Nat → Prop} {w w' : World} (h : Turn S w w') {b : Nat} (hb : b < w.heap.size) (hn : ¬ S b) (o : Nat) : w'.cell? ⟨b, o, none⟩ = w.cell? ⟨b, o, none⟩ := World.cell?_of_block (h.block b hb hn)
theorem Turn.heap {S : Nat → Prop} {w w' : World} (h : Turn S w w') {b : Nat} {o : Obj} (hb : w.heap[b]? = some o) (hn : ¬ S b) : w'.heap[b]? = some o := by
  rw [h.block b (Array.getElem?_eq_some_iff.1 hb).1 hn]; exact hb

/-- an own row lies on, where its block does not turn -/
theorem own_turn {S : Nat → Prop} {w w' : World} {B : Nat} {e : TypeId} {size n : Nat} {v : Value} {xs : List Value} (h : w.ownsRow B e size v n xs) (k : Turn S w w') (hs : ∀ g, v.ownBlock = some g → ¬ S g) : w'.ownsRow B e size v n xs := by
  refine ⟨h.1, ?_⟩
  rcases h.2 with h' | ⟨g, cap, cur, rfl, b, hg, r⟩
  · exact .inl h'
  · exact .inr ⟨g, cap, cur, rfl, b, k.heap hg (hs g rfl), r⟩

/-- the cells of a writing -/
def wcells (x : Nat × List UInt8) : List Value := .int .i64 (x.1 : Nat) :: bytesV x.2
theorem bytesV_length (l : List UInt8) : (bytesV l).length = l.length := by simp [bytesV]
theorem bytesV_append (a b : List UInt8) : bytesV (a ++ b) = bytesV a ++ bytesV b := by simp [bytesV]
theorem bytesV_take (l : List UInt8) (k : Nat) : (bytesV l).take k = bytesV (l.take k) := by simp [bytesV]
theorem bytesV_drop (l : List UInt8) (k : Nat) : (bytesV l).drop k = bytesV (l.drop k) := by simp [bytesV]
theorem bytesV_one (l : List UInt8) : ∀ v ∈ bytesV l, v.oneCell' = true := by
  intro v hv
  obtain ⟨c, _, rfl⟩ := List.mem_map.1 hv
  rfl
theorem wcells_length (x : Nat × List UInt8) (h : x.2.length = 64) : (wcells x).length = 65 := by simp [wcells, bytesV_length, h]
theorem wcells_one (x : Nat × List UInt8) : ∀ v ∈ wcells x, v.oneCell' = true := by
  intro v hv
  rcases List.mem_cons.1 hv with rfl | h
  · rfl
  · exact bytesV_one _ v h
def wflat (l : List (Nat × List UInt8)) : List Value := l.flatMap wcells
theorem wflat_snoc (l : List (Nat × List UInt8)) (x : Nat × List UInt8) : wflat (l ++ [x]) = wflat l ++ wcells x := by simp [wflat]
theorem wflat_length {n : Nat} : ∀ (l : List (Nat × List UInt8)), Waits n l → (wflat l).length = l.length * 65
  | [], _ => rfl
  | x :: r, h => by
    show (wcells x ++ wflat r).length = _
    rw [List.length_append, wcells_length x (h x (by simp)).2, wflat_length r (fun y hy => h y (by simp [hy])), List.length_cons]
    omega
theorem wflat_at {n : Nat} : ∀ (l : List (Nat × List UInt8)), Waits n l → ∀ (k : Nat) (hk : k < l.length) (j : Nat), j < 65 → (wflat l)[k * 65 + j]? = (wcells l[k])[j]?
  | [], _, k, hk, _, _ => by simp at hk
  | x :: r, h, k, hk, j, hj => by
    show (wcells x ++ wflat r)[_]? = _
    have hx := wcells_length x (h x (by simp)).2
    cases k with
    | zero => rw [List.getElem?_append_left (by omega), Nat.zero_mul, Nat.zero_add]; rfl
    | succ k =>
      rw [List.getElem?_append_right (by omega), hx, show (k + 1) * 65 + j - 65 = k * 65 + j from by omega, wflat_at r (fun y hy => h y (by simp [hy])) k (by simpa using hk) j hj]
      rfl
def sflat (l : List (List UInt8)) : List UInt8 := l.flatten
theorem sflat_length : ∀ (l : List (List UInt8)), Secs l → (sflat l).length = l.length * 64
  | [], _ => rfl
  | x :: r, h => by
    show (x ++ sflat r).length = _
    rw [List.length_append, h x (by simp), sflat_length r (fun y hy => h y (by simp [hy])), List.length_cons]
    omega
theorem sflat_mid : ∀ (l : List (List UInt8)), Secs l → ∀ (k : Nat) (hk : k < l.length), sflat l = (sflat l).take (k * 64) ++ (l[k] ++ (sflat l).drop (k * 64 + 64))
  | [], _, k, hk => by simp at hk
  | x :: r, h, k, hk => by
    have hx := h x (by simp)
    show x ++ sflat r = (x ++ sflat r).take _ ++ (_ ++ (x ++ sflat r).drop _)
    cases k with
    | zero =>
      rw [Nat.zero_mul, List.take_zero, List.nil_append, List.drop_append, List.drop_of_length_le (by omega : x.length ≤ 0 + 64), List.nil_append, show 0 + 64 - x.length = 0 from by omega, List.drop_zero]
      rfl
    | succ k =>
      have ih := sflat_mid r (fun y hy => h y (by simp [hy])) k (by simpa using hk)
      rw [List.take_append, List.take_of_length_le (by omega : x.length ≤ (k + 1) * 64), List.drop_append, List.drop_of_length_le (by omega : x.length ≤ (k + 1) * 64 + 64), List.nil_append,
        show (k + 1) * 64 - x.length = k * 64 from by omega, show (k + 1) * 64 + 64 - x.length = k * 64 + 64 from by omega, List.append_assoc]
      exact congrArg (x ++ ·) ih
theorem sflat_set : ∀ (l : List (List UInt8)), Secs l → ∀ (k : Nat) (_ : k < l.length) (s : List UInt8), sflat (l.set k s) = (sflat l).take (k * 64) ++ (s ++ (sflat l).drop (k * 64 + 64))
  | [], _, k, hk, _ => by simp at hk
  | x :: r, h, k, hk, s => by
    have hx := h x (by simp)
    cases k with
    | zero =>
      show s ++ sflat r = (x ++ sflat r).take _ ++ (_ ++ (x ++ sflat r).drop _)
      rw [Nat.zero_mul, List.take_zero, List.nil_append, List.drop_append, List.drop_of_length_le (by omega : x.length ≤ 0 + 64), List.nil_append, show 0 + 64 - x.length = 0 from by omega, List.drop_zero]
    | succ k =>
      show x ++ sflat (r.set k s) = (x ++ sflat r).take _ ++ (_ ++ (x ++ sflat r).drop _)
      have ih := sflat_set r (fun y hy => h y (by simp [hy])) k (by simpa using hk) s
      rw [List.take_append, List.take_of_length_le (by omega : x.length ≤ (k + 1) * 64), List.drop_append, List.drop_of_length_le (by omega : x.length ≤ (k + 1) * 64 + 64), List.nil_append,
        show (k + 1) * 64 - x.length = k * 64 from by omega, show (k + 1) * 64 + 64 - x.length = k * 64 + 64 from by omega, List.append_assoc]
      exact congrArg (x ++ ·) ih
theorem sflat_at (l : List (List UInt8)) (h : Secs l) (k : Nat) (hk : k < l.length) (j : Nat) (hj : j < 64) : (sflat l)[k * 64 + j]? = (l[k])[j]? := by
  have hs := h l[k] (List.getElem_mem hk)
  have hl := sflat_length l h
  rw [sflat_mid l h k hk, List.getElem?_append_right (by rw [List.length_take]; omega), List.getElem?_append_left (by rw [List.length_take]; omega), List.length_take, Nat.min_eq_left (by omega), Nat.add_sub_cancel_left]

/-- an own row, and what is spare behind it -/
theorem own_block {w : World} {B : Nat} {e : TypeId} {size g n cap : Nat} {xs : List Value} (h : w.ownsRow B e size (.slice (some ⟨g, 0, none⟩) n cap) n xs) :
    ∃ rest : List Value, w.heap[g]? = some (.cells (xs ++ rest).toArray e (0, 0)) ∧ (xs ++ rest).length = cap * size ∧ xs.length = n * size ∧ n ≤ cap ∧ cap ≤ maxLen ∧ B ≤ g := by
  obtain ⟨hl, h⟩ := h
  rcases h with ⟨h', _⟩ | ⟨g', cap', cur, h', hb, hg, hnc, hm, hcs, htake⟩
  · cases h'
  · cases h'
    refine ⟨cur.toList.drop (n * size), ?_, ?_, hl, hnc, hm, hb⟩
    · rw [← htake, List.take_append_drop]; exact hg
    · rw [← htake, List.take_append_drop]; simpa using hcs
theorem own_of {w : World} {B : Nat} {e : TypeId} {size g n cap : Nat} {xs rest : List Value} (h : w.heap[g]? = some (.cells (xs ++ rest).toArray e (0, 0))) (hz : (xs ++ rest).length = cap * size) (hl : xs.length = n * size) (hc : n ≤ cap) (hm : cap ≤ maxLen) (hb : B ≤ g) :
    w.ownsRow B e size (.slice (some ⟨g, 0, none⟩) n cap) n xs :=
  ⟨hl, .inr ⟨g, cap, _, rfl, hb, h, hc, hm, by simpa using hz, by rw [← hl]; simp⟩⟩
theorem own_form {w : World} {B : Nat} {e : TypeId} {size n : Nat} {v : Value} {xs : List Value} (h : w.ownsRow B e size v n xs) : (v = .slice none 0 0 ∧ n = 0) ∨ ∃ g cap, v = .slice (some ⟨g, 0, none⟩) n cap := by
  rcases h.2 with h | ⟨g, cap, _, h, _⟩
  · exact .inl h
  · exact .inr ⟨g, cap, h⟩

/-- block b is a disk that holds D: lv, wv, kv are its three slices -/
structure DiskMem (w : World) (b : Nat) (D : DiskS) (lv wv kv : Value) : Prop where
  disk : w.heap[b]? = some (.cells #[lv, wv, .bool D.on, .int .i64 D.fuse, kv] 55 (0, 0))
  last : w.ownsRow 0 73 64 lv D.last.length (bytesV (sflat D.last))
  wait : w.ownsRow 0 75 65 wv D.wait.length (wflat D.wait)
  keep : w.ownsRow 0 5 1 kv D.keep.length (bytesV D.keep)
  secs : Secs D.last
  waits : Waits D.last.length D.wait
  lb : lv.ownBlock ≠ some b
  wb : wv.ownBlock ≠ some b
  kb : kv.ownBlock ≠ some b
  lw : ∀ g, lv.ownBlock = some g → wv.ownBlock ≠ some g
  lk : ∀ g, lv.ownBlock = some g → kv.ownBlock ≠ some g
  wk : ∀ g, wv.ownBlock = some g → kv.ownBlock ≠ some g
/-- block b is a disk that holds D, all of whose blocks are in F -/
def DiskAt (F : Nat → Prop) (w : World) (b : Nat) (D : DiskS) : Prop :=
  ∃ lv wv kv, DiskMem w b D lv wv kv ∧ F b ∧ (∀ g, lv.ownBlock = some g → F g) ∧ (∀ g, wv.ownBlock = some g → F g) ∧ ∀ g, kv.ownBlock = some g → F g
theorem DiskMem.turn {S : Nat → Prop} {w w' : World} {b : Nat} {D : DiskS} {lv wv kv : Value} (h : DiskMem w b D lv wv kv) (k : Turn S w w') (hb : ¬ S b) (hl : ∀ g, lv.ownBlock = some g → ¬ S g) (hw : ∀ g, wv.ownBlock = some g → ¬ S g) (hk : ∀ g, kv.ownBlock = some g → ¬ S g) : DiskMem w' b D lv wv kv :=
  ⟨k.heap h.disk hb, own_turn h.last k hl, own_turn h.wait k hw, own_turn h.keep k hk, h.secs, h.waits, h.lb, h.wb, h.kb, h.lw, h.lk, h.wk⟩
theorem DiskMem.lt {w : World} {b : Nat} {D : DiskS} {lv wv kv : Value} (h : DiskMem w b D lv wv kv) : b < w.heap.size := (Array.getElem?_eq_some_iff.1 h.disk).1
theorem DiskAt.turn {F S : Nat → Prop} {w w' : World} {b : Nat} {D : DiskS} (h : DiskAt F w b D) (k : Turn S w w') (hF : ∀ i, i < w.heap.size → F i → ¬ S i) : DiskAt F w' b D := by
  obtain ⟨lv, wv, kv, m, f1, f2, f3, f4⟩ := h
  exact ⟨lv, wv, kv, m.turn k (hF _ m.lt f1) (fun g e => hF g (m.last.lt g e).2 (f2 g e)) (fun g e => hF g (m.wait.lt g e).2 (f3 g e)) (fun g e => hF g (m.keep.lt g e).2 (f4 g e)), f1, f2, f3, f4⟩
theorem DiskAt.grown {F : Nat → Prop} {w w' : World} {b : Nat} {D : DiskS} (h : DiskAt F w b D) (k : w.grownBy w' none) : DiskAt F w' b D := h.turn (S := fun _ => False) (Turn.of_grown k) (fun _ _ _ q => q)
theorem DiskAt.mono {F G : Nat → Prop} {w : World} {b : Nat} {D : DiskS} (h : DiskAt F w b D) (hF : ∀ i, i < w.heap.size → F i → G i) : DiskAt G w b D := by
  obtain ⟨lv, wv, kv, m, f1, f2, f3, f4⟩ := h
  exact ⟨lv, wv, kv, m, hF _ m.lt f1, fun g e => hF g (m.last.lt g e).2 (f2 g e), fun g e => hF g (m.wait.lt g e).2 (f3 g e), fun g e => hF g (m.keep.lt g e).2 (f4 g e)⟩
theorem DiskAt.lt {F : Nat → Prop} {w : World} {b : Nat} {D : DiskS} (h : DiskAt F w b D) : b < w.heap.size := by obtain ⟨_, _, _, m, _⟩ := h; exact m.lt
theorem DiskAt.own {F : Nat → Prop} {w : World} {b : Nat} {D : DiskS} (h : DiskAt F w b D) : F b := by obtain ⟨_, _, _, _, f, _⟩ := h; exact f
end Go.Proofs.YtbakhdbnfmoceaaGreatDoor
