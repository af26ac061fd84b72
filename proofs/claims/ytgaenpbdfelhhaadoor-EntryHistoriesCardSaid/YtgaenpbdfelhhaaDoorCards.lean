/-
  DERIVED. GIVEN WITH THE SEED: THE CARDS: each row of YtgaenpbdfelhhaaDoorRows.lean that lists a variable, with what it lists TIED to the program's text (the seventh form; the later family's looks); each row that meets fmt, with fmt's text TOLD by the authors' own Lean function (tested against real Go, not proved from fmt's source: count such statements apart). THE CARD IS WHAT COUNTS. Prove the row's statement (the work); the ties are given (YtgaenpbdfelhhaaDoorTie.lean); close each card by the builder's one call (the guide's Derived/Test/ToyasCard.lean, 'card_holds'). Laid BY PROGRAM, IN A SANDBOX (cutbox-door.mjs). By AI agents, Wed Nov 11 2026. No macro, syntax, notation, axiom, sorry.
-/
import Derived.Test.YtgaenpbdfelhhaaDoorRows
import GoSem.ClaimSeven
namespace Go.Proofs.YtgaenpbdfelhhaaDoor
namespace Rows

/-- THE TIED CARD OF 'plumboblaw15.BandNodes'. -/
def bandNodesCard : Claim7 := { stood := { row := bandNodesRow, standIns := [], harness := (true, "6399005c6b7f42c9cc1d15c05d67458ac0574fae0cd9741d3679f86008fdd681"), looks := false }, kinds := [], alts := [], laidByText := true, laidKinds := [.data, .data], laidTests := true, laidLooks := .later }
def BandNodesCardSaid : Prop := Claim7.holds Tryd.pinned (.plain (OpenSpec.ofChange bandNodesSpec)) bandNodesCard

/-- THE TIED CARD OF 'plumboblaw17.EntryCodes'. -/
def entryCodesCard : Claim7 := { stood := { row := entryCodesRow, standIns := [], harness := (true, "6399005c6b7f42c9cc1d15c05d67458ac0574fae0cd9741d3679f86008fdd681"), looks := false }, kinds := [], alts := [], laidByText := true, laidKinds := [.data, .data], laidTests := true, laidLooks := .later }
def EntryCodesCardSaid : Prop := Claim7.holds Tryd.pinned (.plain (OpenSpec.ofChange entryCodesSpec)) entryCodesCard

/-- THE TIED CARD OF 'plumboblaw17.EntryParses'. -/
def entryParsesCard : Claim7 := { stood := { row := entryParsesRow, standIns := [], harness := (true, "6399005c6b7f42c9cc1d15c05d67458ac0574fae0cd9741d3679f86008fdd681"), looks := false }, kinds := [], alts := [], laidByText := true, laidKinds := [.data, .data], laidTests := true, laidLooks := .later }
def EntryParsesCardSaid : Prop := Claim7.holds Tryd.pinned (.plain (OpenSpec.ofChange entryParsesSpec)) entryParsesCard

/-- THE TIED CARD OF 'plumboblaw17.EntryHistories'. -/
def entryHistoriesCard : Claim7 := { stood := { row := entryHistoriesRow, standIns := [], harness := (true, "6399005c6b7f42c9cc1d15c05d67458ac0574fae0cd9741d3679f86008fdd681"), looks := false }, kinds := [], alts := [], laidByText := true, laidKinds := [.data, .data], laidTests := true, laidLooks := .later }
def EntryHistoriesCardSaid : Prop := Claim7.holds Tryd.pinned (.plain (OpenSpec.ofChange entryHistoriesSpec)) entryHistoriesCard

/-- THE SECOND FORM's CARD OF 'plumboblaw15.BandNodes'. -/
def bandNodesUptoCard : Claim7 := { stood := { row := bandNodesUptoRow, standIns := [], harness := (true, "6399005c6b7f42c9cc1d15c05d67458ac0574fae0cd9741d3679f86008fdd681"), looks := false }, kinds := [], alts := [], laidByText := true, laidKinds := [.data, .data], laidTests := true, laidLooks := .later }
def BandNodesUptoCardSaid : Prop := Claim7.holds Tryd.pinned (.plain (OpenSpec.upto bandNodesSpec)) bandNodesUptoCard

/-- THE SECOND FORM's CARD OF 'plumboblaw17.EntryCodes'. -/
def entryCodesUptoCard : Claim7 := { stood := { row := entryCodesUptoRow, standIns := [], harness := (true, "6399005c6b7f42c9cc1d15c05d67458ac0574fae0cd9741d3679f86008fdd681"), looks := false }, kinds := [], alts := [], laidByText := true, laidKinds := [.data, .data], laidTests := true, laidLooks := .later }
def EntryCodesUptoCardSaid : Prop := Claim7.holds Tryd.pinned (.plain (OpenSpec.upto entryCodesSpec)) entryCodesUptoCard

/-- THE SECOND FORM's CARD OF 'plumboblaw17.EntryParses'. -/
def entryParsesUptoCard : Claim7 := { stood := { row := entryParsesUptoRow, standIns := [], harness := (true, "6399005c6b7f42c9cc1d15c05d67458ac0574fae0cd9741d3679f86008fdd681"), looks := false }, kinds := [], alts := [], laidByText := true, laidKinds := [.data, .data], laidTests := true, laidLooks := .later }
def EntryParsesUptoCardSaid : Prop := Claim7.holds Tryd.pinned (.plain (OpenSpec.upto entryParsesSpec)) entryParsesUptoCard

/-- THE SECOND FORM's CARD OF 'plumboblaw17.EntryHistories'. -/
def entryHistoriesUptoCard : Claim7 := { stood := { row := entryHistoriesUptoRow, standIns := [], harness := (true, "6399005c6b7f42c9cc1d15c05d67458ac0574fae0cd9741d3679f86008fdd681"), looks := false }, kinds := [], alts := [], laidByText := true, laidKinds := [.data, .data], laidTests := true, laidLooks := .later }
def EntryHistoriesUptoCardSaid : Prop := Claim7.holds Tryd.pinned (.plain (OpenSpec.upto entryHistoriesSpec)) entryHistoriesUptoCard
end Rows
end Go.Proofs.YtgaenpbdfelhhaaDoor
