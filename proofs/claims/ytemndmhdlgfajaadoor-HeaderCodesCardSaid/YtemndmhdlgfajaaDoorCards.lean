/-
  DERIVED. GIVEN WITH THE SEED: THE CARDS: each row of YtemndmhdlgfajaaDoorRows.lean that lists a variable, with what it lists TIED to the program's text (the seventh form; the later family's looks); each row that meets fmt, with fmt's text TOLD by the authors' own Lean function (tested against real Go, not proved from fmt's source: count such statements apart). THE CARD IS WHAT COUNTS. Prove the row's statement (the work); the ties are given (YtemndmhdlgfajaaDoorTie.lean); close each card by the builder's one call (the guide's Derived/Test/ToyasCard.lean, 'card_holds'). Laid BY PROGRAM, IN A SANDBOX (cutbox-door.mjs). By AI agents, Wed Nov 11 2026. No macro, syntax, notation, axiom, sorry.
-/
import Derived.Test.YtemndmhdlgfajaaDoorRows
import GoSem.ClaimSeven
namespace Go.Proofs.YtemndmhdlgfajaaDoor
namespace Rows

/-- THE TIED CARD OF 'plumboblaw19.HeaderCodes'. -/
def headerCodesCard : Claim7 := { stood := { row := headerCodesRow, standIns := [], harness := (true, "187c88543eda5f74c606ee50e39fbfa7a644553a53a442d44b3f3718d6d2c96b"), looks := false }, kinds := [], alts := [], laidByText := true, laidKinds := [.data, .data], laidTests := true, laidLooks := .later }
def HeaderCodesCardSaid : Prop := Claim7.holds Tryd.pinned (.plain (OpenSpec.ofChange headerCodesSpec)) headerCodesCard

/-- THE TIED CARD OF 'plumboblaw19.HeaderParses'. -/
def headerParsesCard : Claim7 := { stood := { row := headerParsesRow, standIns := [], harness := (true, "187c88543eda5f74c606ee50e39fbfa7a644553a53a442d44b3f3718d6d2c96b"), looks := false }, kinds := [], alts := [], laidByText := true, laidKinds := [.data, .data], laidTests := true, laidLooks := .later }
def HeaderParsesCardSaid : Prop := Claim7.holds Tryd.pinned (.plain (OpenSpec.ofChange headerParsesSpec)) headerParsesCard

/-- THE TIED CARD OF 'plumboblaw19.HeaderChains'. -/
def headerChainsCard : Claim7 := { stood := { row := headerChainsRow, standIns := [], harness := (true, "187c88543eda5f74c606ee50e39fbfa7a644553a53a442d44b3f3718d6d2c96b"), looks := false }, kinds := [], alts := [], laidByText := true, laidKinds := [.data, .data], laidTests := true, laidLooks := .later }
def HeaderChainsCardSaid : Prop := Claim7.holds Tryd.pinned (.plain (OpenSpec.ofChange headerChainsSpec)) headerChainsCard

/-- THE TIED CARD OF 'plumboblaw20.RosterAdds'. -/
def rosterAddsCard : Claim7 := { stood := { row := rosterAddsRow, standIns := [], harness := (true, "187c88543eda5f74c606ee50e39fbfa7a644553a53a442d44b3f3718d6d2c96b"), looks := false }, kinds := [], alts := [], laidByText := true, laidKinds := [.data, .data, .pinned], laidTests := true, laidLooks := .later }
def RosterAddsCardSaid : Prop := Claim7.holds Tryd.pinned (.plain (OpenSpec.ofChange rosterAddsSpec)) rosterAddsCard

/-- THE TIED CARD OF 'plumboblaw20.RosterLays'. -/
def rosterLaysCard : Claim7 := { stood := { row := rosterLaysRow, standIns := [], harness := (true, "187c88543eda5f74c606ee50e39fbfa7a644553a53a442d44b3f3718d6d2c96b"), looks := false }, kinds := [], alts := [], laidByText := true, laidKinds := [.data, .data, .data, .data, .pinned], laidTests := true, laidLooks := .later }
def RosterLaysCardSaid : Prop := Claim7.holds Tryd.pinned (.plain (OpenSpec.ofChange rosterLaysSpec)) rosterLaysCard

/-- THE SECOND FORM's CARD OF 'plumboblaw19.HeaderCodes'. -/
def headerCodesUptoCard : Claim7 := { stood := { row := headerCodesUptoRow, standIns := [], harness := (true, "187c88543eda5f74c606ee50e39fbfa7a644553a53a442d44b3f3718d6d2c96b"), looks := false }, kinds := [], alts := [], laidByText := true, laidKinds := [.data, .data], laidTests := true, laidLooks := .later }
def HeaderCodesUptoCardSaid : Prop := Claim7.holds Tryd.pinned (.plain (OpenSpec.upto headerCodesSpec)) headerCodesUptoCard

/-- THE SECOND FORM's CARD OF 'plumboblaw19.HeaderParses'. -/
def headerParsesUptoCard : Claim7 := { stood := { row := headerParsesUptoRow, standIns := [], harness := (true, "187c88543eda5f74c606ee50e39fbfa7a644553a53a442d44b3f3718d6d2c96b"), looks := false }, kinds := [], alts := [], laidByText := true, laidKinds := [.data, .data], laidTests := true, laidLooks := .later }
def HeaderParsesUptoCardSaid : Prop := Claim7.holds Tryd.pinned (.plain (OpenSpec.upto headerParsesSpec)) headerParsesUptoCard

/-- THE SECOND FORM's CARD OF 'plumboblaw19.HeaderChains'. -/
def headerChainsUptoCard : Claim7 := { stood := { row := headerChainsUptoRow, standIns := [], harness := (true, "187c88543eda5f74c606ee50e39fbfa7a644553a53a442d44b3f3718d6d2c96b"), looks := false }, kinds := [], alts := [], laidByText := true, laidKinds := [.data, .data], laidTests := true, laidLooks := .later }
def HeaderChainsUptoCardSaid : Prop := Claim7.holds Tryd.pinned (.plain (OpenSpec.upto headerChainsSpec)) headerChainsUptoCard

/-- THE SECOND FORM's CARD OF 'plumboblaw20.RosterAdds'. -/
def rosterAddsUptoCard : Claim7 := { stood := { row := rosterAddsUptoRow, standIns := [], harness := (true, "187c88543eda5f74c606ee50e39fbfa7a644553a53a442d44b3f3718d6d2c96b"), looks := false }, kinds := [], alts := [], laidByText := true, laidKinds := [.data, .data, .pinned], laidTests := true, laidLooks := .later }
def RosterAddsUptoCardSaid : Prop := Claim7.holds Tryd.pinned (.plain (OpenSpec.upto rosterAddsSpec)) rosterAddsUptoCard

/-- THE SECOND FORM's CARD OF 'plumboblaw20.RosterLays'. -/
def rosterLaysUptoCard : Claim7 := { stood := { row := rosterLaysUptoRow, standIns := [], harness := (true, "187c88543eda5f74c606ee50e39fbfa7a644553a53a442d44b3f3718d6d2c96b"), looks := false }, kinds := [], alts := [], laidByText := true, laidKinds := [.data, .data, .data, .data, .pinned], laidTests := true, laidLooks := .later }
def RosterLaysUptoCardSaid : Prop := Claim7.holds Tryd.pinned (.plain (OpenSpec.upto rosterLaysSpec)) rosterLaysUptoCard
end Rows
end Go.Proofs.YtemndmhdlgfajaaDoor
