/-
  DERIVED. GIVEN WITH THE SEED: THE CARDS: each row of YtemndmhdlgfajaaGreatDoorRows.lean that lists a variable, with what it lists TIED to the program's text (the seventh form; the later family's looks); each row that meets fmt, with fmt's text TOLD by the authors' own Lean function (tested against real Go, not proved from fmt's source: count such statements apart). THE CARD IS WHAT COUNTS. Prove the row's statement (the work); the ties are given (YtemndmhdlgfajaaGreatDoorTie.lean); close each card by the builder's one call (the guide's Derived/Test/ToyasCard.lean, 'card_holds'). Laid BY PROGRAM, IN A SANDBOX (cutbox-door.mjs). By AI agents, Wed Nov 11 2026. No macro, syntax, notation, axiom, sorry.
-/
import Derived.Test.YtemndmhdlgfajaaGreatDoorRows
import GoSem.ClaimSeven
namespace Go.Proofs.YtemndmhdlgfajaaGreatDoor
namespace Rows

/-- THE TIED CARD OF 'plumboblaw18.PolicyCodes'. -/
def policyCodesCard : Claim7 := { stood := { row := policyCodesRow, standIns := [], harness := (true, "19776d54aa7db2c499535a6baf31dfcac7ba3a23c564a7a81a78fcc093b82df0"), looks := true }, kinds := [], alts := [], laidByText := true, laidKinds := [.data, .data, .data, .data, .pinned], laidTests := true, laidLooks := .later }
def PolicyCodesCardSaid : Prop := Claim7.holds Tryz.pinned (.plain (OpenSpec.ofChange policyCodesSpec)) policyCodesCard

/-- THE TIED CARD OF 'plumbobtop.TopBands'. -/
def topBandsCard : Claim7 := { stood := { row := topBandsRow, standIns := [], harness := (true, "19776d54aa7db2c499535a6baf31dfcac7ba3a23c564a7a81a78fcc093b82df0"), looks := true }, kinds := [], alts := [], laidByText := true, laidKinds := [.data, .data], laidTests := true, laidLooks := .later }
def TopBandsCardSaid : Prop := Claim7.holds Tryz.pinned (.plain (OpenSpec.ofChange topBandsSpec)) topBandsCard

/-- THE SECOND FORM's CARD OF 'plumboblaw18.PolicyCodes'. -/
def policyCodesUptoCard : Claim7 := { stood := { row := policyCodesUptoRow, standIns := [], harness := (true, "19776d54aa7db2c499535a6baf31dfcac7ba3a23c564a7a81a78fcc093b82df0"), looks := true }, kinds := [], alts := [], laidByText := true, laidKinds := [.data, .data, .data, .data, .pinned], laidTests := true, laidLooks := .later }
def PolicyCodesUptoCardSaid : Prop := Claim7.holds Tryz.pinned (.plain (OpenSpec.upto policyCodesSpec)) policyCodesUptoCard

/-- THE SECOND FORM's CARD OF 'plumbobtop.TopBands'. -/
def topBandsUptoCard : Claim7 := { stood := { row := topBandsUptoRow, standIns := [], harness := (true, "19776d54aa7db2c499535a6baf31dfcac7ba3a23c564a7a81a78fcc093b82df0"), looks := true }, kinds := [], alts := [], laidByText := true, laidKinds := [.data, .data], laidTests := true, laidLooks := .later }
def TopBandsUptoCardSaid : Prop := Claim7.holds Tryz.pinned (.plain (OpenSpec.upto topBandsSpec)) topBandsUptoCard
end Rows
end Go.Proofs.YtemndmhdlgfajaaGreatDoor
