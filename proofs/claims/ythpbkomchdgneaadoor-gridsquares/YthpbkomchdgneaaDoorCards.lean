/-
  DERIVED. GIVEN WITH THE SEED: THE CARDS: each row of YthpbkomchdgneaaDoorRows.lean that lists a variable, with what it lists TIED to the program's text (the seventh form; the later family's looks); each row that meets fmt, with fmt's text TOLD by the authors' own Lean function (tested against real Go, not proved from fmt's source: count such statements apart). THE CARD IS WHAT COUNTS. Prove the row's statement (the work); the ties are given (YthpbkomchdgneaaDoorTie.lean); close each card by the builder's one call (the guide's Derived/Test/ToyasCard.lean, 'card_holds'). Laid BY PROGRAM, IN A SANDBOX (cutbox-door.mjs). By AI agents, Wed Nov 11 2026. No macro, syntax, notation, axiom, sorry.
-/
import Derived.Test.YthpbkomchdgneaaDoorRows
import GoSem.ClaimSeven
namespace Go.Proofs.YthpbkomchdgneaaDoor
namespace Rows

/-- THE TIED CARD OF 'mercatorlaw2.GridSquares'. -/
def gridSquaresCard : Claim7 := { stood := { row := gridSquaresRow, standIns := [], harness := (true, "7a0cdc1f021757f21fb42c531da842acf8145271825e3ba01bfdca5149e52d5b"), looks := true }, kinds := [], alts := [], laidByText := true, laidKinds := [.data, .data, .data, .sentinel, .sentinel], laidTests := true, laidLooks := .later }
def GridSquaresCardSaid : Prop := Claim7.holds Tryd.pinned (.plain (OpenSpec.ofChange gridSquaresSpec)) gridSquaresCard

/-- THE TIED CARD OF 'mercatorlaw2.GridSheets'. -/
def gridSheetsCard : Claim7 := { stood := { row := gridSheetsRow, standIns := [], harness := (true, "7a0cdc1f021757f21fb42c531da842acf8145271825e3ba01bfdca5149e52d5b"), looks := true }, kinds := [], alts := [], laidByText := true, laidKinds := [.handle, .sentinel, .sentinel, .sentinel, .sentinel, .sentinel, .sentinel, .sentinel, .sentinel], laidTests := true, laidLooks := .later }
def GridSheetsCardSaid : Prop := Claim7.holds Tryd.pinned (.plain (OpenSpec.ofChange gridSheetsSpec)) gridSheetsCard

/-- THE TIED CARD OF 'mercatorlaw2.GridLines'. -/
def gridLinesCard : Claim7 := { stood := { row := gridLinesRow, standIns := [], harness := (true, "7a0cdc1f021757f21fb42c531da842acf8145271825e3ba01bfdca5149e52d5b"), looks := true }, kinds := [], alts := [], laidByText := true, laidKinds := [.handle, .sentinel, .sentinel, .sentinel, .sentinel, .sentinel, .sentinel, .sentinel, .sentinel], laidTests := true, laidLooks := .later }
def GridLinesCardSaid : Prop := Claim7.holds Tryd.pinned (.plain (OpenSpec.ofChange gridLinesSpec)) gridLinesCard

/-- THE SECOND FORM's CARD OF 'mercatorlaw2.GridSquares'. -/
def gridSquaresUptoCard : Claim7 := { stood := { row := gridSquaresUptoRow, standIns := [], harness := (true, "7a0cdc1f021757f21fb42c531da842acf8145271825e3ba01bfdca5149e52d5b"), looks := true }, kinds := [], alts := [], laidByText := true, laidKinds := [.data, .data, .data, .sentinel, .sentinel], laidTests := true, laidLooks := .later }
def GridSquaresUptoCardSaid : Prop := Claim7.holds Tryd.pinned (.plain (OpenSpec.upto gridSquaresSpec)) gridSquaresUptoCard

/-- THE SECOND FORM's CARD OF 'mercatorlaw2.GridSheets'. -/
def gridSheetsUptoCard : Claim7 := { stood := { row := gridSheetsUptoRow, standIns := [], harness := (true, "7a0cdc1f021757f21fb42c531da842acf8145271825e3ba01bfdca5149e52d5b"), looks := true }, kinds := [], alts := [], laidByText := true, laidKinds := [.handle, .sentinel, .sentinel, .sentinel, .sentinel, .sentinel, .sentinel, .sentinel, .sentinel], laidTests := true, laidLooks := .later }
def GridSheetsUptoCardSaid : Prop := Claim7.holds Tryd.pinned (.plain (OpenSpec.upto gridSheetsSpec)) gridSheetsUptoCard

/-- THE SECOND FORM's CARD OF 'mercatorlaw2.GridLines'. -/
def gridLinesUptoCard : Claim7 := { stood := { row := gridLinesUptoRow, standIns := [], harness := (true, "7a0cdc1f021757f21fb42c531da842acf8145271825e3ba01bfdca5149e52d5b"), looks := true }, kinds := [], alts := [], laidByText := true, laidKinds := [.handle, .sentinel, .sentinel, .sentinel, .sentinel, .sentinel, .sentinel, .sentinel, .sentinel], laidTests := true, laidLooks := .later }
def GridLinesUptoCardSaid : Prop := Claim7.holds Tryd.pinned (.plain (OpenSpec.upto gridLinesSpec)) gridLinesUptoCard
end Rows
end Go.Proofs.YthpbkomchdgneaaDoor
