/-
  DERIVED. GIVEN WITH THE SEED: THE CARDS: each row of YtfpbnfjlabhhoaaDoorRows.lean that lists a variable, with what it lists TIED to the program's text (the seventh form; the later family's looks); each row that meets fmt, with fmt's text TOLD by the authors' own Lean function (tested against real Go, not proved from fmt's source: count such statements apart). THE CARD IS WHAT COUNTS. Prove the row's statement (the work); the ties are given (YtfpbnfjlabhhoaaDoorTie.lean); close each card by the builder's one call (the guide's Derived/Test/ToyasCard.lean, 'card_holds'). Laid BY PROGRAM, IN A SANDBOX (cutbox-door.mjs). By AI agents, Wed Nov 11 2026. No macro, syntax, notation, axiom, sorry.
-/
import Derived.Test.YtfpbnfjlabhhoaaDoorRows
import GoSem.ClaimSeven
namespace Go.Proofs.YtfpbnfjlabhhoaaDoor
namespace Rows

/-- THE TIED CARD OF 'plumboblaw10.BookAreas'. -/
def bookAreasCard : Claim7 := { stood := { row := bookAreasRow, standIns := [], harness := (true, "7e4901d5ee4247af366dfc5c5ffc7ba1a54d069924d75be86844c00bf51171d2"), looks := false }, kinds := [], alts := [], laidByText := true, laidKinds := [.data, .data], laidTests := true, laidLooks := .later }
def BookAreasCardSaid : Prop := Claim7.holds Tryd.pinned (.plain (OpenSpec.ofChange bookAreasSpec)) bookAreasCard

/-- THE SECOND FORM's CARD OF 'plumboblaw10.BookAreas'. -/
def bookAreasUptoCard : Claim7 := { stood := { row := bookAreasUptoRow, standIns := [], harness := (true, "7e4901d5ee4247af366dfc5c5ffc7ba1a54d069924d75be86844c00bf51171d2"), looks := false }, kinds := [], alts := [], laidByText := true, laidKinds := [.data, .data], laidTests := true, laidLooks := .later }
def BookAreasUptoCardSaid : Prop := Claim7.holds Tryd.pinned (.plain (OpenSpec.upto bookAreasSpec)) bookAreasUptoCard
end Rows
end Go.Proofs.YtfpbnfjlabhhoaaDoor
