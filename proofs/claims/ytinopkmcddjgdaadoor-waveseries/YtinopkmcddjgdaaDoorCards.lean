/-
  DERIVED. GIVEN WITH THE SEED: THE CARDS: each row of YtinopkmcddjgdaaDoorRows.lean that lists a variable, with what it lists TIED to the program's text (the seventh form; the later family's looks); each row that meets fmt, with fmt's text TOLD by the authors' own Lean function (tested against real Go, not proved from fmt's source: count such statements apart). THE CARD IS WHAT COUNTS. Prove the row's statement (the work); the ties are given (YtinopkmcddjgdaaDoorTie.lean); close each card by the builder's one call (the guide's Derived/Test/ToyasCard.lean, 'card_holds'). Laid BY PROGRAM, IN A SANDBOX (cutbox-door.mjs). By AI agents, Wed Nov 11 2026. No macro, syntax, notation, axiom, sorry.
-/
import Derived.Test.YtinopkmcddjgdaaDoorRows
import GoSem.ClaimSeven
namespace Go.Proofs.YtinopkmcddjgdaaDoor
namespace Rows

/-- THE TIED CARD OF 'mercatorlaw2.WaveSeries'. -/
def waveSeriesCard : Claim7 := { stood := { row := waveSeriesRow, standIns := [], harness := (true, "668490bade43f7ec950d2067b4cc9a37faf93e1362a6b99275bd603156d53121"), looks := true }, kinds := [], alts := [], laidByText := true, laidKinds := [.handle, .sentinel, .sentinel, .sentinel, .sentinel, .sentinel, .sentinel, .sentinel, .sentinel], laidTests := true, laidLooks := .later }
def WaveSeriesCardSaid : Prop := Claim7.holds Tryd.pinned (.plain (OpenSpec.ofChange waveSeriesSpec)) waveSeriesCard

/-- THE SECOND FORM's CARD OF 'mercatorlaw2.WaveSeries'. -/
def waveSeriesUptoCard : Claim7 := { stood := { row := waveSeriesUptoRow, standIns := [], harness := (true, "668490bade43f7ec950d2067b4cc9a37faf93e1362a6b99275bd603156d53121"), looks := true }, kinds := [], alts := [], laidByText := true, laidKinds := [.handle, .sentinel, .sentinel, .sentinel, .sentinel, .sentinel, .sentinel, .sentinel, .sentinel], laidTests := true, laidLooks := .later }
def WaveSeriesUptoCardSaid : Prop := Claim7.holds Tryd.pinned (.plain (OpenSpec.upto waveSeriesSpec)) waveSeriesUptoCard
end Rows
end Go.Proofs.YtinopkmcddjgdaaDoor
