/-
  DERIVED. GIVEN WITH THE SEED: THE CARDS: each row of YtioahjdojgcfdaaDoorRows.lean that lists a variable, with what it lists TIED to the program's text (the seventh form; the later family's looks); each row that meets fmt, with fmt's text TOLD by the authors' own Lean function (tested against real Go, not proved from fmt's source: count such statements apart). THE CARD IS WHAT COUNTS. Prove the row's statement (the work); the ties are given (YtioahjdojgcfdaaDoorTie.lean); close each card by the builder's one call (the guide's Derived/Test/ToyasCard.lean, 'card_holds'). Laid BY PROGRAM, IN A SANDBOX (cutbox-door.mjs). By AI agents, Wed Nov 11 2026. No macro, syntax, notation, axiom, sorry.
-/
import Derived.Test.YtioahjdojgcfdaaDoorRows
import GoSem.ClaimSeven
namespace Go.Proofs.YtioahjdojgcfdaaDoor
namespace Rows

/-- THE TIED CARD OF 'plumboblaw21.WindowOf'. -/
def windowOfCard : Claim7 := { stood := { row := windowOfRow, standIns := [], harness := (true, "73efe38c772adb433bc1847299b0a789dc82fdea3d5c7d5fafc35670d60f3c3e"), looks := false }, kinds := [], alts := [], laidByText := true, laidKinds := [.data, .data], laidTests := true, laidLooks := .later }
def WindowOfCardSaid : Prop := Claim7.holds Tryd.pinned (.plain (OpenSpec.ofChange windowOfSpec)) windowOfCard

/-- THE TIED CARD OF 'plumboblaw21.WindowMeets'. -/
def windowMeetsCard : Claim7 := { stood := { row := windowMeetsRow, standIns := [], harness := (true, "73efe38c772adb433bc1847299b0a789dc82fdea3d5c7d5fafc35670d60f3c3e"), looks := false }, kinds := [], alts := [], laidByText := true, laidKinds := [.data, .data], laidTests := true, laidLooks := .later }
def WindowMeetsCardSaid : Prop := Claim7.holds Tryd.pinned (.plain (OpenSpec.ofChange windowMeetsSpec)) windowMeetsCard

/-- THE TIED CARD OF 'plumboblaw21.WindowPrefix'. -/
def windowPrefixCard : Claim7 := { stood := { row := windowPrefixRow, standIns := [], harness := (true, "73efe38c772adb433bc1847299b0a789dc82fdea3d5c7d5fafc35670d60f3c3e"), looks := false }, kinds := [], alts := [], laidByText := true, laidKinds := [.data, .data], laidTests := true, laidLooks := .later }
def WindowPrefixCardSaid : Prop := Claim7.holds Tryd.pinned (.plain (OpenSpec.ofChange windowPrefixSpec)) windowPrefixCard

/-- THE TIED CARD OF 'plumboblaw22.AttestParses'. -/
def attestParsesCard : Claim7 := { stood := { row := attestParsesRow, standIns := [], harness := (true, "73efe38c772adb433bc1847299b0a789dc82fdea3d5c7d5fafc35670d60f3c3e"), looks := false }, kinds := [], alts := [], laidByText := true, laidKinds := [.data, .data], laidTests := true, laidLooks := .later }
def AttestParsesCardSaid : Prop := Claim7.holds Tryd.pinned (.plain (OpenSpec.ofChange attestParsesSpec)) attestParsesCard

/-- THE TIED CARD OF 'plumboblaw19.HeaderChains'. -/
def headerChainsCard : Claim7 := { stood := { row := headerChainsRow, standIns := [], harness := (true, "73efe38c772adb433bc1847299b0a789dc82fdea3d5c7d5fafc35670d60f3c3e"), looks := false }, kinds := [], alts := [], laidByText := true, laidKinds := [.data, .data], laidTests := true, laidLooks := .later }
def HeaderChainsCardSaid : Prop := Claim7.holds Tryd.pinned (.plain (OpenSpec.ofChange headerChainsSpec)) headerChainsCard

/-- THE TIED CARD OF 'plumboblaw20.RosterAdds'. -/
def rosterAddsCard : Claim7 := { stood := { row := rosterAddsRow, standIns := [], harness := (true, "73efe38c772adb433bc1847299b0a789dc82fdea3d5c7d5fafc35670d60f3c3e"), looks := false }, kinds := [], alts := [], laidByText := true, laidKinds := [.data, .data, .pinned], laidTests := true, laidLooks := .later }
def RosterAddsCardSaid : Prop := Claim7.holds Tryd.pinned (.plain (OpenSpec.ofChange rosterAddsSpec)) rosterAddsCard

/-- THE TIED CARD OF 'plumboblaw20.RosterLays'. -/
def rosterLaysCard : Claim7 := { stood := { row := rosterLaysRow, standIns := [], harness := (true, "73efe38c772adb433bc1847299b0a789dc82fdea3d5c7d5fafc35670d60f3c3e"), looks := false }, kinds := [], alts := [], laidByText := true, laidKinds := [.data, .data, .data, .data, .pinned], laidTests := true, laidLooks := .later }
def RosterLaysCardSaid : Prop := Claim7.holds Tryd.pinned (.plain (OpenSpec.ofChange rosterLaysSpec)) rosterLaysCard

/-- THE SECOND FORM's CARD OF 'plumboblaw21.WindowOf'. -/
def windowOfUptoCard : Claim7 := { stood := { row := windowOfUptoRow, standIns := [], harness := (true, "73efe38c772adb433bc1847299b0a789dc82fdea3d5c7d5fafc35670d60f3c3e"), looks := false }, kinds := [], alts := [], laidByText := true, laidKinds := [.data, .data], laidTests := true, laidLooks := .later }
def WindowOfUptoCardSaid : Prop := Claim7.holds Tryd.pinned (.plain (OpenSpec.upto windowOfSpec)) windowOfUptoCard

/-- THE SECOND FORM's CARD OF 'plumboblaw21.WindowMeets'. -/
def windowMeetsUptoCard : Claim7 := { stood := { row := windowMeetsUptoRow, standIns := [], harness := (true, "73efe38c772adb433bc1847299b0a789dc82fdea3d5c7d5fafc35670d60f3c3e"), looks := false }, kinds := [], alts := [], laidByText := true, laidKinds := [.data, .data], laidTests := true, laidLooks := .later }
def WindowMeetsUptoCardSaid : Prop := Claim7.holds Tryd.pinned (.plain (OpenSpec.upto windowMeetsSpec)) windowMeetsUptoCard

/-- THE SECOND FORM's CARD OF 'plumboblaw21.WindowPrefix'. -/
def windowPrefixUptoCard : Claim7 := { stood := { row := windowPrefixUptoRow, standIns := [], harness := (true, "73efe38c772adb433bc1847299b0a789dc82fdea3d5c7d5fafc35670d60f3c3e"), looks := false }, kinds := [], alts := [], laidByText := true, laidKinds := [.data, .data], laidTests := true, laidLooks := .later }
def WindowPrefixUptoCardSaid : Prop := Claim7.holds Tryd.pinned (.plain (OpenSpec.upto windowPrefixSpec)) windowPrefixUptoCard

/-- THE SECOND FORM's CARD OF 'plumboblaw22.AttestParses'. -/
def attestParsesUptoCard : Claim7 := { stood := { row := attestParsesUptoRow, standIns := [], harness := (true, "73efe38c772adb433bc1847299b0a789dc82fdea3d5c7d5fafc35670d60f3c3e"), looks := false }, kinds := [], alts := [], laidByText := true, laidKinds := [.data, .data], laidTests := true, laidLooks := .later }
def AttestParsesUptoCardSaid : Prop := Claim7.holds Tryd.pinned (.plain (OpenSpec.upto attestParsesSpec)) attestParsesUptoCard

/-- THE SECOND FORM's CARD OF 'plumboblaw19.HeaderChains'. -/
def headerChainsUptoCard : Claim7 := { stood := { row := headerChainsUptoRow, standIns := [], harness := (true, "73efe38c772adb433bc1847299b0a789dc82fdea3d5c7d5fafc35670d60f3c3e"), looks := false }, kinds := [], alts := [], laidByText := true, laidKinds := [.data, .data], laidTests := true, laidLooks := .later }
def HeaderChainsUptoCardSaid : Prop := Claim7.holds Tryd.pinned (.plain (OpenSpec.upto headerChainsSpec)) headerChainsUptoCard

/-- THE SECOND FORM's CARD OF 'plumboblaw20.RosterAdds'. -/
def rosterAddsUptoCard : Claim7 := { stood := { row := rosterAddsUptoRow, standIns := [], harness := (true, "73efe38c772adb433bc1847299b0a789dc82fdea3d5c7d5fafc35670d60f3c3e"), looks := false }, kinds := [], alts := [], laidByText := true, laidKinds := [.data, .data, .pinned], laidTests := true, laidLooks := .later }
def RosterAddsUptoCardSaid : Prop := Claim7.holds Tryd.pinned (.plain (OpenSpec.upto rosterAddsSpec)) rosterAddsUptoCard

/-- THE SECOND FORM's CARD OF 'plumboblaw20.RosterLays'. -/
def rosterLaysUptoCard : Claim7 := { stood := { row := rosterLaysUptoRow, standIns := [], harness := (true, "73efe38c772adb433bc1847299b0a789dc82fdea3d5c7d5fafc35670d60f3c3e"), looks := false }, kinds := [], alts := [], laidByText := true, laidKinds := [.data, .data, .data, .data, .pinned], laidTests := true, laidLooks := .later }
def RosterLaysUptoCardSaid : Prop := Claim7.holds Tryd.pinned (.plain (OpenSpec.upto rosterLaysSpec)) rosterLaysUptoCard
end Rows
end Go.Proofs.YtioahjdojgcfdaaDoor
