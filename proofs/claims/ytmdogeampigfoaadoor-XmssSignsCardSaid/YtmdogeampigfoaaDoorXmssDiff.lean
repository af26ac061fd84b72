/- The signature of "hello" by the key of seed "seed", height 1, tells of "hallo" another root: by numbers that the kernel worked out. -/
import Derived.Test.YtmdogeampigfoaaDoorXmssEnds0
import Derived.Test.YtmdogeampigfoaaDoorXmssEnds1
import Derived.Test.YtmdogeampigfoaaDoorXmssEndsR
import Derived.Test.YtmdogeampigfoaaDoorXmssA
namespace Go.Proofs.YtmdogeampigfoaaDoor
attribute [local irreducible] shaL

def seedB : ByteArray := ⟨#[115, 101, 101, 100]⟩
def helloB : ByteArray := ⟨#[104, 101, 108, 108, 111]⟩
def halloB : ByteArray := ⟨#[104, 97, 108, 108, 111]⟩
theorem seed_txt : seedB = txt seedN := by decide
theorem hello_txt : helloB = txt (helloN, 5) := by decide
theorem hallo_txt : halloB = txt (halloN, 5) := by decide
def t16 (l : List Nat) : List ByteArray := l.map fun x => txt (x, 16)
theorem open_lit : openS seedB = txt (openN, 16) := by rw [seed_txt, open_txt, open_is]
theorem take_one {l : List Nat} {c : Nat} (h : c < l.length) : l.take (c + 1) = l.take c ++ [l.getD c 0] := by
  rw [List.take_succ_eq_append_getElem h, List.getD_eq_getElem?_getD, List.getElem?_eq_getElem h]
  rfl
theorem ends_lit0 : ∀ n, n ≤ 35 → endsS seedB 0 n = t16 (ends0.take n)
  | 0, _ => rfl
  | n + 1, h => by
    rw [endsS, ends_lit0 n (by omega), open_lit, seed_txt, secret_txt, walk_txt, ends0_is n (by omega), take_one (show n < ends0.length from h)]
    simp [t16]
theorem ends_lit1 : ∀ n, n ≤ 35 → endsS seedB 1 n = t16 (ends1.take n)
  | 0, _ => rfl
  | n + 1, h => by
    rw [endsS, ends_lit1 n (by omega), open_lit, seed_txt, secret_txt, walk_txt, ends1_is n (by omega), take_one (show n < ends1.length from h)]
    simp [t16]
theorem public_lit0 : publicS seedB 0 = txt (leaf0, 16) := by
  have e : ends0.take 35 = ends0 := List.take_of_length_le (by decide)
  rw [publicS, ends_lit0 35 (Nat.le_refl _), open_lit, e, t16, public_txt, leaf0_is]
theorem public_lit1 : publicS seedB 1 = txt (leaf1, 16) := by
  have e : ends1.take 35 = ends1 := List.take_of_length_le (by decide)
  rw [publicS, ends_lit1 35 (Nat.le_refl _), open_lit, e, t16, public_txt, leaf1_is]
theorem hello_lit : (digestS (openS seedB) 1 helloB).data.toList = be hello1 16 := by
  have e : digestS (openS seedB) 1 helloB = txt (hello1, 16) := by
    rw [← hello_is, ← tag_texts, digestS, open_lit, hello_txt]
    rfl
  rw [e]
  rfl
theorem hallo_lit : (digestS (openS seedB) 1 halloB).data.toList = be hallo1 16 := by
  have e : digestS (openS seedB) 1 halloB = txt (hallo1, 16) := by
    rw [← hallo_is, ← tag_texts, digestS, open_lit, hallo_txt]
    rfl
  rw [e]
  rfl
theorem map_at (l : List Nat) (c : Nat) : ((l.map Int.ofNat).getD c 0).toNat = l.getD c 0 := by
  rw [List.getD_eq_getElem?_getD, List.getElem?_map, List.getD_eq_getElem?_getD]
  cases l[c]? <;> rfl
theorem map_rest (l : List Nat) (c : Nat) : (15 - (l.map Int.ofNat).getD c 0).toNat = 15 - l.getD c 0 := by
  rw [List.getD_eq_getElem?_getD, List.getElem?_map, List.getD_eq_getElem?_getD]
  cases l[c]? with
  | none => rfl
  | some x => show ((15 : Int) - (x : Int)).toNat = 15 - x; omega
theorem rec_lit : ∀ n, n ≤ 35 → recS (openS seedB) 1 (digs (digestS (openS seedB) 1 halloB).data.toList) (sigS seedB 1 (digs (digestS (openS seedB) 1 helloB).data.toList) 35) n = t16 (endsR.take n)
  | 0, _ => rfl
  | n + 1, h => by
    have hs := sigS_at seedB 1 (digs (digestS (openS seedB) 1 helloB).data.toList) 35 n (by omega)
    rw [recS, rec_lit n (by omega), List.getD_eq_getElem?_getD (l := sigS _ _ _ _), hs]
    rw [hello_lit, hallo_lit, dig1_is, dig2_is, map_at, map_at, map_rest, Option.getD_some, open_lit, seed_txt, secret_txt, walk_txt, walk_txt, endsR_is n (by omega), take_one (show n < endsR.length from h)]
    simp [t16]
theorem public_litR : publicOfS (openS seedB) 1 (recS (openS seedB) 1 (digs (digestS (openS seedB) 1 halloB).data.toList) (sigS seedB 1 (digs (digestS (openS seedB) 1 helloB).data.toList) 35) 35) = txt (leafR, 16) := by
  have e : endsR.take 35 = endsR := List.take_of_length_le (by decide)
  rw [rec_lit 35 (Nat.le_refl _), open_lit, e, t16, public_txt, leafR_is]
theorem node_txt (a b : Nat) : nodeS (txt (a, 16)) (txt (b, 16)) = txt (tagF 5 [(a, 16), (b, 16)], 16) := by
  rw [← tag_texts]
  rfl
theorem leaves_lit : leavesS seedB 1 = [txt (leaf0, 16), txt (leaf1, 16)] := by
  show [publicS seedB 0, publicS seedB 1] = _
  rw [public_lit0, public_lit1]
theorem root_lit : rootK seedB 1 = txt (rootN1, 16) := by
  rw [rootK, leaves_lit, ← root1_is, ← node_txt]
  rfl
theorem climb_lit : climbS (publicOfS (openS seedB) 1 (recS (openS seedB) 1 (digs (digestS (openS seedB) 1 halloB).data.toList) (sigS seedB 1 (digs (digestS (openS seedB) 1 helloB).data.toList) 35) 35)) 1 (pathS 1 (leavesS seedB 1) 1) = txt (rootNR, 16) := by
  rw [public_litR, leaves_lit, ← rootR_is, ← node_txt]
  rfl
theorem hallo_not : ((climbS (publicOfS (openS seedB) 1 (recS (openS seedB) 1 (digs (digestS (openS seedB) 1 halloB).data.toList) (sigS seedB 1 (digs (digestS (openS seedB) 1 helloB).data.toList) 35) 35)) 1 (pathS 1 (leavesS seedB 1) 1)).toList == (rootK seedB 1).toList) = false := by
  rw [climb_lit, root_lit, ByteArray.toList_eq, ByteArray.toList_eq]
  decide +kernel
end Go.Proofs.YtmdogeampigfoaaDoor
