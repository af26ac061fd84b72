/- What a hash has taken: plain lists. No walk. -/
import Derived.Test.YtmdogeampigfoaaDoorShaSpec
namespace Go.Proofs.YtmdogeampigfoaaDoor

theorem blocksTo_append (s : St) (l m : List UInt8) (n : Nat) (h : 64 * n ≤ l.length) : blocksTo s (l ++ m) n = blocksTo s l n := by
  induction n with
  | zero => rfl
  | succ n ih =>
    rw [blocksTo, blocksTo, ih (by omega)]
    congr 1
    rw [List.drop_append_of_le_length (by omega), List.take_append_of_le_length (by simp; omega)]
theorem blocksTo_ok (l : List UInt8) (n : Nat) : (blocksTo start l n).ok := by
  cases n with
  | zero => exact start_ok
  | succ n => exact mix_ok _ _

/-- a state and a block that stand for what was taken -/
structure Good (l : List UInt8) (st : St) (blk : List UInt8) : Prop where
  st : st = blocksTo start l (l.length / 64)
  len : blk.length = 64
  rest : blk.take (l.length % 64) = l.drop (64 * (l.length / 64))
theorem Good.ok {l : List UInt8} {st : St} {blk : List UInt8} (h : Good l st blk) : st.ok := by rw [h.st]; exact blocksTo_ok _ _
theorem Good.start : Good [] start (List.replicate 64 0) := ⟨rfl, by simp, by simp⟩

/-- bytes laid into a block from a place on -/
def lay (blk : List UInt8) (at_ : Nat) (x : List UInt8) : List UInt8 := blk.take at_ ++ x ++ blk.drop (at_ + x.length)
theorem lay_length (blk : List UInt8) (k : Nat) (x : List UInt8) (h : k + x.length ≤ blk.length) : (lay blk k x).length = blk.length := by
  simp [lay]; omega

theorem Good.less {l : List UInt8} {st : St} {blk x : List UInt8} (h : Good l st blk) (hx : l.length % 64 + x.length < 64) : Good (l ++ x) st (lay blk (l.length % 64) x) := by
  have hl := h.len
  have e1 : (l ++ x).length / 64 = l.length / 64 := by simp; omega
  have e2 : (l ++ x).length % 64 = l.length % 64 + x.length := by simp; omega
  refine ⟨?_, ?_, ?_⟩
  · rw [e1, h.st, blocksTo_append _ _ _ _ (by omega)]
  · rw [lay_length _ _ _ (by omega), hl]
  · rw [e1, e2, List.drop_append_of_le_length (by omega), ← h.rest, lay, List.append_assoc, List.take_append]
    have e3 : (blk.take (l.length % 64)).length = l.length % 64 := by simp; omega
    rw [e3, List.take_take, Nat.min_eq_right (by omega), show l.length % 64 + x.length - l.length % 64 = x.length from by omega, List.take_left']
    rfl
theorem Good.full {l : List UInt8} {st : St} {blk x : List UInt8} (h : Good l st blk) (hx : l.length % 64 + x.length = 64) : Good (l ++ x) (st.mix (lay blk (l.length % 64) x)) (lay blk (l.length % 64) x) := by
  have hl := h.len
  have e1 : (l ++ x).length / 64 = l.length / 64 + 1 := by simp; omega
  have e2 : (l ++ x).length % 64 = 0 := by simp; omega
  have e3 : lay blk (l.length % 64) x = (l ++ x).drop (64 * (l.length / 64)) := by
    rw [lay, hx, List.drop_of_length_le (by omega), List.append_nil, h.rest, List.drop_append_of_le_length (by omega)]
  refine ⟨?_, ?_, ?_⟩
  · rw [e1, blocksTo, blocksTo_append _ _ _ _ (by omega), ← h.st]
    congr 1
    rw [← e3, List.take_of_length_le (by rw [lay_length _ _ _ (by omega)]; omega)]
  · rw [lay_length _ _ _ (by omega), hl]
  · rw [e2, List.take_zero, e1, List.drop_of_length_le (by simp; omega)]

/-- the padding, zero by zero -/
theorem pad_parts (l : List UInt8) (k : Nat) (hk : (l.length + 1 + k) % 64 = 56) (hk2 : k ≤ (119 - l.length % 64) % 64) : (l ++ 128 :: List.replicate k 0) ++ be (8 * l.length) 8 = pad l := by
  have : k = (119 - l.length % 64) % 64 := by omega
  rw [pad, ← this]
theorem sha_of_took {l : List UInt8} {st : St} {blk : List UInt8} (h : Good (pad l) st blk) : st.bytes = shaL l := by
  rw [shaL, h.st, pad_length, Nat.mul_div_cancel_left _ (by decide)]
end Go.Proofs.YtmdogeampigfoaaDoor
