/-
  DERIVED. GIVEN WITH THE SEED: THE CARDS: each row of YtbhoeiopckmfhaaGreatDoorRows.lean that lists a variable, with what it lists TIED to the program's text (the seventh form; the later family's looks); each row that meets fmt, with fmt's text TOLD by the authors' own Lean function (tested against real Go, not proved from fmt's source: count such statements apart). THE CARD IS WHAT COUNTS. Prove the row's statement (the work); the ties are given (YtbhoeiopckmfhaaGreatDoorTie.lean); close each card by the builder's one call (the guide's Derived/Test/ToyasCard.lean, 'card_holds'). Laid BY PROGRAM, IN A SANDBOX (cutbox-door.mjs). By AI agents, Wed Nov 11 2026. No macro, syntax, notation, axiom, sorry.
-/
import Derived.Test.YtbhoeiopckmfhaaGreatDoorRows
import GoSem.ClaimSeven
namespace Go.Proofs.YtbhoeiopckmfhaaGreatDoor
namespace Rows

/-- THE TIED CARD OF 'plumboblaw25.AuditorOnce'. -/
def auditorOnceCard : Claim7 := { stood := { row := auditorOnceRow, standIns := [], harness := (true, "3663c0a8afb025e8a1790d4f05f11b4a615500007a8517252b43acbe527e6641"), looks := true }, kinds := [], alts := [], laidByText := true, laidKinds := [.data, .data], laidTests := true, laidLooks := .later }
def AuditorOnceCardSaid : Prop := Claim7.holds Tryz.pinned (.plain (OpenSpec.ofChange auditorOnceSpec)) auditorOnceCard

/-- THE TIED CARD OF 'plumboblaw25.AuditorChecks'. -/
def auditorChecksCard : Claim7 := { stood := { row := auditorChecksRow, standIns := [], harness := (true, "3663c0a8afb025e8a1790d4f05f11b4a615500007a8517252b43acbe527e6641"), looks := true }, kinds := [], alts := [], laidByText := true, laidKinds := [.data, .data], laidTests := true, laidLooks := .later }
def AuditorChecksCardSaid : Prop := Claim7.holds Tryz.pinned (.plain (OpenSpec.ofChange auditorChecksSpec)) auditorChecksCard

/-- THE TIED CARD OF 'plumbobtop.TopBands'. -/
def topBandsCard : Claim7 := { stood := { row := topBandsRow, standIns := [], harness := (true, "3663c0a8afb025e8a1790d4f05f11b4a615500007a8517252b43acbe527e6641"), looks := true }, kinds := [], alts := [], laidByText := true, laidKinds := [.data, .data], laidTests := true, laidLooks := .later }
def TopBandsCardSaid : Prop := Claim7.holds Tryz.pinned (.plain (OpenSpec.ofChange topBandsSpec)) topBandsCard

/-- THE SECOND FORM's CARD OF 'plumboblaw25.AuditorOnce'. -/
def auditorOnceUptoCard : Claim7 := { stood := { row := auditorOnceUptoRow, standIns := [], harness := (true, "3663c0a8afb025e8a1790d4f05f11b4a615500007a8517252b43acbe527e6641"), looks := true }, kinds := [], alts := [], laidByText := true, laidKinds := [.data, .data], laidTests := true, laidLooks := .later }
def AuditorOnceUptoCardSaid : Prop := Claim7.holds Tryz.pinned (.plain (OpenSpec.upto auditorOnceSpec)) auditorOnceUptoCard

/-- THE SECOND FORM's CARD OF 'plumboblaw25.AuditorChecks'. -/
def auditorChecksUptoCard : Claim7 := { stood := { row := auditorChecksUptoRow, standIns := [], harness := (true, "3663c0a8afb025e8a1790d4f05f11b4a615500007a8517252b43acbe527e6641"), looks := true }, kinds := [], alts := [], laidByText := true, laidKinds := [.data, .data], laidTests := true, laidLooks := .later }
def AuditorChecksUptoCardSaid : Prop := Claim7.holds Tryz.pinned (.plain (OpenSpec.upto auditorChecksSpec)) auditorChecksUptoCard

/-- THE SECOND FORM's CARD OF 'plumbobtop.TopBands'. -/
def topBandsUptoCard : Claim7 := { stood := { row := topBandsUptoRow, standIns := [], harness := (true, "3663c0a8afb025e8a1790d4f05f11b4a615500007a8517252b43acbe527e6641"), looks := true }, kinds := [], alts := [], laidByText := true, laidKinds := [.data, .data], laidTests := true, laidLooks := .later }
def TopBandsUptoCardSaid : Prop := Claim7.holds Tryz.pinned (.plain (OpenSpec.upto topBandsSpec)) topBandsUptoCard
end Rows
end Go.Proofs.YtbhoeiopckmfhaaGreatDoor
