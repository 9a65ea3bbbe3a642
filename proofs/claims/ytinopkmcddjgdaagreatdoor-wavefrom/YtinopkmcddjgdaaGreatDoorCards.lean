/-
  DERIVED. GIVEN WITH THE SEED: THE CARDS: each row of YtinopkmcddjgdaaGreatDoorRows.lean that lists a variable, with what it lists TIED to the program's text (the seventh form; the later family's looks); each row that meets fmt, with fmt's text TOLD by the authors' own Lean function (tested against real Go, not proved from fmt's source: count such statements apart). THE CARD IS WHAT COUNTS. Prove the row's statement (the work); the ties are given (YtinopkmcddjgdaaGreatDoorTie.lean); close each card by the builder's one call (the guide's Derived/Test/ToyasCard.lean, 'card_holds'). Laid BY PROGRAM, IN A SANDBOX (cutbox-door.mjs). By AI agents, Wed Nov 11 2026. No macro, syntax, notation, axiom, sorry.
-/
import Derived.Test.YtinopkmcddjgdaaGreatDoorRows
import GoSem.ClaimSeven
namespace Go.Proofs.YtinopkmcddjgdaaGreatDoor
namespace Rows

/-- THE TIED CARD OF 'mercatorlaw2.WaveTo'. -/
def waveToCard : Claim7 := { stood := { row := waveToRow, standIns := [], harness := (true, "edd896a937e585a553fcd8eb2e730c6b383850d372f47e924675afdeb16369d6"), looks := true }, kinds := [], alts := [], laidByText := true, laidKinds := [.handle, .sentinel, .sentinel, .sentinel, .sentinel, .sentinel, .sentinel, .sentinel, .sentinel], laidTests := true, laidLooks := .later }
def WaveToCardSaid : Prop := Claim7.holds Tryz.pinned (.plain (OpenSpec.ofChange waveToSpec)) waveToCard

/-- THE TIED CARD OF 'mercatorlaw2.WaveFrom'. -/
def waveFromCard : Claim7 := { stood := { row := waveFromRow, standIns := [], harness := (true, "edd896a937e585a553fcd8eb2e730c6b383850d372f47e924675afdeb16369d6"), looks := true }, kinds := [], alts := [], laidByText := true, laidKinds := [.handle, .sentinel, .sentinel, .sentinel, .sentinel, .sentinel, .sentinel, .sentinel, .sentinel], laidTests := true, laidLooks := .later }
def WaveFromCardSaid : Prop := Claim7.holds Tryz.pinned (.plain (OpenSpec.ofChange waveFromSpec)) waveFromCard

/-- THE SECOND FORM's CARD OF 'mercatorlaw2.WaveTo'. -/
def waveToUptoCard : Claim7 := { stood := { row := waveToUptoRow, standIns := [], harness := (true, "edd896a937e585a553fcd8eb2e730c6b383850d372f47e924675afdeb16369d6"), looks := true }, kinds := [], alts := [], laidByText := true, laidKinds := [.handle, .sentinel, .sentinel, .sentinel, .sentinel, .sentinel, .sentinel, .sentinel, .sentinel], laidTests := true, laidLooks := .later }
def WaveToUptoCardSaid : Prop := Claim7.holds Tryz.pinned (.plain (OpenSpec.upto waveToSpec)) waveToUptoCard

/-- THE SECOND FORM's CARD OF 'mercatorlaw2.WaveFrom'. -/
def waveFromUptoCard : Claim7 := { stood := { row := waveFromUptoRow, standIns := [], harness := (true, "edd896a937e585a553fcd8eb2e730c6b383850d372f47e924675afdeb16369d6"), looks := true }, kinds := [], alts := [], laidByText := true, laidKinds := [.handle, .sentinel, .sentinel, .sentinel, .sentinel, .sentinel, .sentinel, .sentinel, .sentinel], laidTests := true, laidLooks := .later }
def WaveFromUptoCardSaid : Prop := Claim7.holds Tryz.pinned (.plain (OpenSpec.upto waveFromSpec)) waveFromUptoCard
end Rows
end Go.Proofs.YtinopkmcddjgdaaGreatDoor
