/-
  No cell of these rows narrows 'for every input' (looked for: loops, veiled, ifaces, maps, wideKeys, modest, calm, conditions, laid).
  DERIVED. THE GIVEN ROWS OF THIS SEAT. 3 by the template 'for every input the law returns true; each argument reads behind the call as it read before'; 0 by the template 'total and deterministic' (their statements: YteabmmockdjhaaaTotals.lean).
  GIVEN WITH THE SEED: the statements are not yours to turn. If you find one false, say at which input.
  Laid BY PROGRAM, IN A SANDBOX (cutbox-rows.mjs): the forced cells as the released guide's own fill.sh prints them over the translation ebb9af9a4c36b708… (all of the seat's roots in one cut). By AI agents, Wed Nov 11 2026. No macro, syntax, notation, axiom, sorry.
-/
import Derived.Test.YteabmmockdjhaaaChecked
import GoSem.Claim
import GoSem.ClaimJoined
import GoSem.ClaimMapViews
import Derived.JoinedTies
import Derived.KernelRfl
namespace Go.Proofs.Yteabmmockdjhaaa
/- THE CELL 'sum', in the pinned program and in every row, IS THE sha256 OF THE DUMP (.gsa) THAT YteabmmockdjhaaaProg.lean LOADS. Nothing in Lean hashes anything: it is a label: what it is worth is what the hold of that sum in a sandbox is worth. -/
noncomputable def Try.pinned : Pinned := { name := "yteabmmockdjhaaa", sum := "ebb9af9a4c36b70879ac4b3472d6ddaa22f362cbf044e2f456225cda12973164", checked := Try.checked }
namespace Rows
def none {H : Type} : Left H := { results := [], args := [] }

/-- 'plumboblaw05.DigitsOf': WHATEVER THE INPUT: true; the input reads as it did. -/
def digitsOfSpec : ChangeSpec := { name := "digitsOf", fn := fun _ => fun
  | [d] => { results := [.lit (.bool true)], args := [d] }
  | _ => none }
def digitsOfRow : OpenClaim := { program := "yteabmmockdjhaaa", sum := "ebb9af9a4c36b70879ac4b3472d6ddaa22f362cbf044e2f456225cda12973164", func := "plumbob/plumboblaw05.DigitsOf", spec := "digitsOf", apart := false }
def DigitsOfSaid : Prop := digitsOfRow.holds Try.pinned (OpenSpec.ofChange digitsOfSpec)

/-- ITS FALSE NEIGHBOUR: 'it returns false'. Refute it at one input. -/
def digitsOfWrong : ChangeSpec := { name := "digitsOf", fn := fun _ => fun
  | [d] => { results := [.lit (.bool false)], args := [d] }
  | _ => none }
def DigitsOfWrongFalsely : Prop := digitsOfRow.holds Try.pinned (OpenSpec.ofChange digitsOfWrong)

/-- 'plumboblaw05.DigitsApart': WHATEVER THE INPUT: true; the input reads as it did. -/
def digitsApartSpec : ChangeSpec := { name := "digitsApart", fn := fun _ => fun
  | [d1, d2] => { results := [.lit (.bool true)], args := [d1, d2] }
  | _ => none }
def digitsApartRow : OpenClaim := { program := "yteabmmockdjhaaa", sum := "ebb9af9a4c36b70879ac4b3472d6ddaa22f362cbf044e2f456225cda12973164", func := "plumbob/plumboblaw05.DigitsApart", spec := "digitsApart", apart := false }
def DigitsApartSaid : Prop := digitsApartRow.holds Try.pinned (OpenSpec.ofChange digitsApartSpec)

/-- ITS FALSE NEIGHBOUR: 'it returns false'. Refute it at one input. -/
def digitsApartWrong : ChangeSpec := { name := "digitsApart", fn := fun _ => fun
  | [d1, d2] => { results := [.lit (.bool false)], args := [d1, d2] }
  | _ => none }
def DigitsApartWrongFalsely : Prop := digitsApartRow.holds Try.pinned (OpenSpec.ofChange digitsApartWrong)

/-- 'plumboblaw05.DigitsLeft': WHATEVER THE INPUT: true; the input reads as it did. -/
def digitsLeftSpec : ChangeSpec := { name := "digitsLeft", fn := fun _ => fun
  | [d] => { results := [.lit (.bool true)], args := [d] }
  | _ => none }
def digitsLeftRow : OpenClaim := { program := "yteabmmockdjhaaa", sum := "ebb9af9a4c36b70879ac4b3472d6ddaa22f362cbf044e2f456225cda12973164", func := "plumbob/plumboblaw05.DigitsLeft", spec := "digitsLeft", apart := false }
def DigitsLeftSaid : Prop := digitsLeftRow.holds Try.pinned (OpenSpec.ofChange digitsLeftSpec)

/-- ITS FALSE NEIGHBOUR: 'it returns false'. Refute it at one input. -/
def digitsLeftWrong : ChangeSpec := { name := "digitsLeft", fn := fun _ => fun
  | [d] => { results := [.lit (.bool false)], args := [d] }
  | _ => none }
def DigitsLeftWrongFalsely : Prop := digitsLeftRow.holds Try.pinned (OpenSpec.ofChange digitsLeftWrong)

/- THE SECOND FORM. 'bulk': how many values and letters a reading holds, each counted each time it is reached (what is shared counts as often as it is met; a slice's spare places count too). A statement '..UptoSaid' is the law's where the arguments, and the package variables that the reading takes, are together of bulk at most 1048576: NARROWER than '..Said'. Prove '..Said' where nothing that the law and all that it calls make is longer than what came in: it says more and counts as full. Else prove '..UptoSaid'. A law counts once. -/
mutual
def uptoBulk {H : Type} : DataW H → Nat
  | .lit (.string bytes) => bytes.length + 1
  | .lit _ => 1
  | .nil => 1
  | .ptr d => uptoBulk d + 1
  | .slice elems spare => uptoBulkAll elems + uptoBulkAll spare + 1
  | .agg parts => uptoBulkAll parts + 1
  | .iface _ d => uptoBulk d + 1
  | .map entries => uptoBulkEntries entries + 1
  | .held _ => 1
def uptoBulkAll {H : Type} : List (DataW H) → Nat
  | [] => 0
  | d :: r => uptoBulk d + uptoBulkAll r
def uptoBulkEntries {H : Type} : List (Lit × DataW H) → Nat
  | [] => 0
  | x :: r => uptoBulkEntry x + uptoBulkEntries r
def uptoBulkEntry {H : Type} : Lit × DataW H → Nat
  | (.string bytes, d) => bytes.length + uptoBulk d + 1
  | (_, d) => uptoBulk d + 1
 end
def uptoSmall : (H : Type) → List (DataW H) → Bool := fun _ ds => decide (uptoBulkAll ds ≤ 1048576)
def OpenSpec.upto (s : _root_.Go.ChangeSpec) : _root_.Go.OpenSpec := { _root_.Go.OpenSpec.ofChange s with cond := some uptoSmall }

/-- 'plumboblaw05.DigitsOf', WHERE WHAT IT READS IS OF BULK AT MOST 1048576: true; the input reads as it did. -/
def digitsOfUptoRow : OpenClaim := { program := "yteabmmockdjhaaa", sum := "ebb9af9a4c36b70879ac4b3472d6ddaa22f362cbf044e2f456225cda12973164", func := "plumbob/plumboblaw05.DigitsOf", spec := "digitsOf", apart := false, narrowed := true }
def DigitsOfUptoSaid : Prop := digitsOfUptoRow.holds Try.pinned (OpenSpec.upto digitsOfSpec)

/-- 'plumboblaw05.DigitsApart', WHERE WHAT IT READS IS OF BULK AT MOST 1048576: true; the input reads as it did. -/
def digitsApartUptoRow : OpenClaim := { program := "yteabmmockdjhaaa", sum := "ebb9af9a4c36b70879ac4b3472d6ddaa22f362cbf044e2f456225cda12973164", func := "plumbob/plumboblaw05.DigitsApart", spec := "digitsApart", apart := false, narrowed := true }
def DigitsApartUptoSaid : Prop := digitsApartUptoRow.holds Try.pinned (OpenSpec.upto digitsApartSpec)

/-- 'plumboblaw05.DigitsLeft', WHERE WHAT IT READS IS OF BULK AT MOST 1048576: true; the input reads as it did. -/
def digitsLeftUptoRow : OpenClaim := { program := "yteabmmockdjhaaa", sum := "ebb9af9a4c36b70879ac4b3472d6ddaa22f362cbf044e2f456225cda12973164", func := "plumbob/plumboblaw05.DigitsLeft", spec := "digitsLeft", apart := false, narrowed := true }
def DigitsLeftUptoSaid : Prop := digitsLeftUptoRow.holds Try.pinned (OpenSpec.upto digitsLeftSpec)

end Rows
end Go.Proofs.Yteabmmockdjhaaa
