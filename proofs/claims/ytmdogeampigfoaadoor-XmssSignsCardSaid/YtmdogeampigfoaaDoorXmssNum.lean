/- Places, steps, walks as great numbers. No walk of the program. -/
import Derived.Test.YtmdogeampigfoaaDoorShaNum
import Derived.Test.YtmdogeampigfoaaDoorDigSpec
namespace Go.Proofs.YtmdogeampigfoaaDoor
attribute [local irreducible] shaL

def placeN (leaf chain step : Nat) : Nat := leaf % 4294967296 * 65536 + chain % 256 * 256 + step % 256
theorem place_txt (leaf chain step : Nat) : placeS leaf chain step = txt (placeN leaf chain step, 6) := by
  have h := be_numB (placeL leaf chain step)
  have hl : (placeL leaf chain step).length = 6 := placeS_size leaf chain step
  have e : numB (placeL leaf chain step) = placeN leaf chain step := by
    have e2 : placeL leaf chain step = be leaf 4 ++ [UInt8.ofNat chain] ++ [UInt8.ofNat step] := by simp [placeL]
    rw [e2, numB_append, numB_append, numB_be, numB_one, numB_one]
    simp [placeN]
    omega
  rw [hl, e] at h
  unfold placeS txt
  rw [h]
noncomputable def stepF (o leaf chain k x : Nat) : Nat := tagF 2 [(o, 16), (placeN leaf chain k, 6), (x, 16)]
theorem step_txt (o leaf chain k x : Nat) : stepS (txt (o, 16)) leaf chain k (txt (x, 16)) = txt (stepF o leaf chain k x, 16) := by
  unfold stepS stepF
  rw [place_txt, ← tag_texts]
  rfl
noncomputable def walkF (o leaf chain a n x : Nat) : Nat := Nat.rec (motive := fun _ => Nat) x (fun n ih => stepF o leaf chain (a + n) ih) n
theorem walk_txt (o leaf chain a x : Nat) : ∀ n, walkS (txt (o, 16)) leaf chain a n (txt (x, 16)) = txt (walkF o leaf chain a n x, 16)
  | 0 => rfl
  | n + 1 => by
    rw [walkS_succ, walk_txt o leaf chain a x n, step_txt]
    rfl
noncomputable def secretF (s : Nat × Nat) (leaf chain : Nat) : Nat := tagF 1 [s, (placeN leaf chain 0, 6)]
theorem secret_txt (s : Nat × Nat) (leaf chain : Nat) : secretS (txt s) leaf chain = txt (secretF s leaf chain, 16) := by
  unfold secretS secretF
  rw [place_txt, ← tag_texts]
  rfl
theorem open_txt (s : Nat × Nat) : openS (txt s) = txt (tagF 3 [s], 16) := by
  unfold openS
  rw [← tag_texts]
  rfl
theorem public_txt (o leaf : Nat) (l : List Nat) : publicOfS (txt (o, 16)) leaf (l.map fun x => txt (x, 16)) = txt (tagF 4 ((o, 16) :: (placeN leaf 0 0, 6) :: l.map fun x => (x, 16)), 16) := by
  unfold publicOfS
  rw [place_txt, ← tag_texts]
  congr 1
  simp [Function.comp_def]
end Go.Proofs.YtmdogeampigfoaaDoor
