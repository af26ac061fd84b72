/-
  DERIVED. GIVEN WITH THE SEED: THE CARDS: each row of YtbakhdbnfmoceaaGreatDoorRows.lean that lists a variable, with what it lists TIED to the program's text (the seventh form; the later family's looks); each row that meets fmt, with fmt's text TOLD by the authors' own Lean function (tested against real Go, not proved from fmt's source: count such statements apart). THE CARD IS WHAT COUNTS. Prove the row's statement (the work); the ties are given (YtbakhdbnfmoceaaGreatDoorTie.lean); close each card by the builder's one call (the guide's Derived/Test/ToyasCard.lean, 'card_holds'). Laid BY PROGRAM, IN A SANDBOX (cutbox-door.mjs). By AI agents, Wed Nov 11 2026. No macro, syntax, notation, axiom, sorry.
-/
import Derived.Test.YtbakhdbnfmoceaaGreatDoorRows
import GoSem.ClaimSeven
namespace Go.Proofs.YtbakhdbnfmoceaaGreatDoor
namespace Rows

/-- THE TIED CARD OF 'plumboblaw11.SignerOnce'. -/
def signerOnceCard : Claim7 := { stood := { row := signerOnceRow, standIns := [], harness := (true, "c69c23a3eca9520c4de6d66236c7511b450aab400cc0e0306d07096e7438b6b5"), looks := false }, kinds := [], alts := [], laidByText := true, laidKinds := [.data, .data], laidTests := true, laidLooks := .later }
def SignerOnceCardSaid : Prop := Claim7.holds Tryz.pinned (.plain (OpenSpec.ofChange signerOnceSpec)) signerOnceCard

/-- THE TIED CARD OF 'plumboblaw11.SignerOpens'. -/
def signerOpensCard : Claim7 := { stood := { row := signerOpensRow, standIns := [], harness := (true, "c69c23a3eca9520c4de6d66236c7511b450aab400cc0e0306d07096e7438b6b5"), looks := false }, kinds := [], alts := [], laidByText := true, laidKinds := [.data, .data], laidTests := true, laidLooks := .later }
def SignerOpensCardSaid : Prop := Claim7.holds Tryz.pinned (.plain (OpenSpec.ofChange signerOpensSpec)) signerOpensCard

/-- THE SECOND FORM's CARD OF 'plumboblaw11.SignerOnce'. -/
def signerOnceUptoCard : Claim7 := { stood := { row := signerOnceUptoRow, standIns := [], harness := (true, "c69c23a3eca9520c4de6d66236c7511b450aab400cc0e0306d07096e7438b6b5"), looks := false }, kinds := [], alts := [], laidByText := true, laidKinds := [.data, .data], laidTests := true, laidLooks := .later }
def SignerOnceUptoCardSaid : Prop := Claim7.holds Tryz.pinned (.plain (OpenSpec.upto signerOnceSpec)) signerOnceUptoCard

/-- THE SECOND FORM's CARD OF 'plumboblaw11.SignerOpens'. -/
def signerOpensUptoCard : Claim7 := { stood := { row := signerOpensUptoRow, standIns := [], harness := (true, "c69c23a3eca9520c4de6d66236c7511b450aab400cc0e0306d07096e7438b6b5"), looks := false }, kinds := [], alts := [], laidByText := true, laidKinds := [.data, .data], laidTests := true, laidLooks := .later }
def SignerOpensUptoCardSaid : Prop := Claim7.holds Tryz.pinned (.plain (OpenSpec.upto signerOpensSpec)) signerOpensUptoCard
end Rows
end Go.Proofs.YtbakhdbnfmoceaaGreatDoor
