/-
  DERIVED. GIVEN WITH THE SEED: THE CARDS: each row of YtheabbknflmnfaaDoorRows.lean that lists a variable, with what it lists TIED to the program's text (the seventh form; the later family's looks); each row that meets fmt, with fmt's text TOLD by the authors' own Lean function (tested against real Go, not proved from fmt's source: count such statements apart). THE CARD IS WHAT COUNTS. Prove the row's statement (the work); the ties are given (YtheabbknflmnfaaDoorTie.lean); close each card by the builder's one call (the guide's Derived/Test/ToyasCard.lean, 'card_holds'). Laid BY PROGRAM, IN A SANDBOX (cutbox-door.mjs). By AI agents, Wed Nov 11 2026. No macro, syntax, notation, axiom, sorry.
-/
import Derived.Test.YtheabbknflmnfaaDoorRows
import GoSem.ClaimSeven
namespace Go.Proofs.YtheabbknflmnfaaDoor
namespace Rows

/-- THE TIED CARD OF 'plumboblaw15.BandNodes'. -/
def bandNodesCard : Claim7 := { stood := { row := bandNodesRow, standIns := [], harness := (true, "cdd15ed505df944737ad523326dbc43d96d631aa67aa4afb28dd662203a38ecd"), looks := false }, kinds := [], alts := [], laidByText := true, laidKinds := [.data, .data], laidTests := true, laidLooks := .later }
def BandNodesCardSaid : Prop := Claim7.holds Tryd.pinned (.plain (OpenSpec.ofChange bandNodesSpec)) bandNodesCard

/-- THE TIED CARD OF 'plumboblaw14.ProofTells'. -/
def proofTellsCard : Claim7 := { stood := { row := proofTellsRow, standIns := [], harness := (true, "cdd15ed505df944737ad523326dbc43d96d631aa67aa4afb28dd662203a38ecd"), looks := false }, kinds := [], alts := [], laidByText := true, laidKinds := [.data, .data], laidTests := true, laidLooks := .later }
def ProofTellsCardSaid : Prop := Claim7.holds Tryd.pinned (.plain (OpenSpec.ofChange proofTellsSpec)) proofTellsCard

/-- THE TIED CARD OF 'plumboblaw14.ProofAfter'. -/
def proofAfterCard : Claim7 := { stood := { row := proofAfterRow, standIns := [], harness := (true, "cdd15ed505df944737ad523326dbc43d96d631aa67aa4afb28dd662203a38ecd"), looks := false }, kinds := [], alts := [], laidByText := true, laidKinds := [.data, .data], laidTests := true, laidLooks := .later }
def ProofAfterCardSaid : Prop := Claim7.holds Tryd.pinned (.plain (OpenSpec.ofChange proofAfterSpec)) proofAfterCard

/-- THE TIED CARD OF 'plumboblaw14.ProofCodes'. -/
def proofCodesCard : Claim7 := { stood := { row := proofCodesRow, standIns := [], harness := (true, "cdd15ed505df944737ad523326dbc43d96d631aa67aa4afb28dd662203a38ecd"), looks := false }, kinds := [], alts := [], laidByText := true, laidKinds := [.data, .data], laidTests := true, laidLooks := .later }
def ProofCodesCardSaid : Prop := Claim7.holds Tryd.pinned (.plain (OpenSpec.ofChange proofCodesSpec)) proofCodesCard

/-- THE TIED CARD OF 'plumboblaw14.ProofBands'. -/
def proofBandsCard : Claim7 := { stood := { row := proofBandsRow, standIns := [], harness := (true, "cdd15ed505df944737ad523326dbc43d96d631aa67aa4afb28dd662203a38ecd"), looks := false }, kinds := [], alts := [], laidByText := true, laidKinds := [.data, .data], laidTests := true, laidLooks := .later }
def ProofBandsCardSaid : Prop := Claim7.holds Tryd.pinned (.plain (OpenSpec.ofChange proofBandsSpec)) proofBandsCard

/-- THE SECOND FORM's CARD OF 'plumboblaw15.BandNodes'. -/
def bandNodesUptoCard : Claim7 := { stood := { row := bandNodesUptoRow, standIns := [], harness := (true, "cdd15ed505df944737ad523326dbc43d96d631aa67aa4afb28dd662203a38ecd"), looks := false }, kinds := [], alts := [], laidByText := true, laidKinds := [.data, .data], laidTests := true, laidLooks := .later }
def BandNodesUptoCardSaid : Prop := Claim7.holds Tryd.pinned (.plain (OpenSpec.upto bandNodesSpec)) bandNodesUptoCard

/-- THE SECOND FORM's CARD OF 'plumboblaw14.ProofTells'. -/
def proofTellsUptoCard : Claim7 := { stood := { row := proofTellsUptoRow, standIns := [], harness := (true, "cdd15ed505df944737ad523326dbc43d96d631aa67aa4afb28dd662203a38ecd"), looks := false }, kinds := [], alts := [], laidByText := true, laidKinds := [.data, .data], laidTests := true, laidLooks := .later }
def ProofTellsUptoCardSaid : Prop := Claim7.holds Tryd.pinned (.plain (OpenSpec.upto proofTellsSpec)) proofTellsUptoCard

/-- THE SECOND FORM's CARD OF 'plumboblaw14.ProofAfter'. -/
def proofAfterUptoCard : Claim7 := { stood := { row := proofAfterUptoRow, standIns := [], harness := (true, "cdd15ed505df944737ad523326dbc43d96d631aa67aa4afb28dd662203a38ecd"), looks := false }, kinds := [], alts := [], laidByText := true, laidKinds := [.data, .data], laidTests := true, laidLooks := .later }
def ProofAfterUptoCardSaid : Prop := Claim7.holds Tryd.pinned (.plain (OpenSpec.upto proofAfterSpec)) proofAfterUptoCard

/-- THE SECOND FORM's CARD OF 'plumboblaw14.ProofCodes'. -/
def proofCodesUptoCard : Claim7 := { stood := { row := proofCodesUptoRow, standIns := [], harness := (true, "cdd15ed505df944737ad523326dbc43d96d631aa67aa4afb28dd662203a38ecd"), looks := false }, kinds := [], alts := [], laidByText := true, laidKinds := [.data, .data], laidTests := true, laidLooks := .later }
def ProofCodesUptoCardSaid : Prop := Claim7.holds Tryd.pinned (.plain (OpenSpec.upto proofCodesSpec)) proofCodesUptoCard

/-- THE SECOND FORM's CARD OF 'plumboblaw14.ProofBands'. -/
def proofBandsUptoCard : Claim7 := { stood := { row := proofBandsUptoRow, standIns := [], harness := (true, "cdd15ed505df944737ad523326dbc43d96d631aa67aa4afb28dd662203a38ecd"), looks := false }, kinds := [], alts := [], laidByText := true, laidKinds := [.data, .data], laidTests := true, laidLooks := .later }
def ProofBandsUptoCardSaid : Prop := Claim7.holds Tryd.pinned (.plain (OpenSpec.upto proofBandsSpec)) proofBandsUptoCard
end Rows
end Go.Proofs.YtheabbknflmnfaaDoor
