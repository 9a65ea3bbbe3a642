/-
  DERIVED. GIVEN WITH THE SEED: THE CARDS: each row of YtkebgnemccaimaaGreatDoorRows.lean that lists a variable, with what it lists TIED to the program's text (the seventh form; the later family's looks); each row that meets fmt, with fmt's text TOLD by the authors' own Lean function (tested against real Go, not proved from fmt's source: count such statements apart). THE CARD IS WHAT COUNTS. Prove the row's statement (the work); the ties are given (YtkebgnemccaimaaGreatDoorTie.lean); close each card by the builder's one call (the guide's Derived/Test/ToyasCard.lean, 'card_holds'). Laid BY PROGRAM, IN A SANDBOX (cutbox-door.mjs). By AI agents, Wed Nov 11 2026. No macro, syntax, notation, axiom, sorry.
-/
import Derived.Test.YtkebgnemccaimaaGreatDoorRows
import GoSem.ClaimSeven
namespace Go.Proofs.YtkebgnemccaimaaGreatDoor
namespace Rows

/-- THE TIED CARD OF 'mercatorlaw2.FlatTo'. -/
def flatToCard : Claim7 := { stood := { row := flatToRow, standIns := [], harness := (true, "06c5bba23a77847126507a29311d07948f718210af0f64e8be3991d9a888beab"), looks := true }, kinds := [], alts := [], laidByText := true, laidKinds := [.handle, .sentinel, .sentinel, .sentinel, .sentinel, .sentinel, .sentinel, .sentinel, .sentinel], laidTests := true, laidLooks := .later }
def FlatToCardSaid : Prop := Claim7.holds Tryz.pinned (.plain (OpenSpec.ofChange flatToSpec)) flatToCard

/-- THE TIED CARD OF 'mercatorlaw2.FlatFrom'. -/
def flatFromCard : Claim7 := { stood := { row := flatFromRow, standIns := [], harness := (true, "06c5bba23a77847126507a29311d07948f718210af0f64e8be3991d9a888beab"), looks := true }, kinds := [], alts := [], laidByText := true, laidKinds := [.handle, .sentinel, .sentinel, .sentinel, .sentinel, .sentinel, .sentinel, .sentinel, .sentinel], laidTests := true, laidLooks := .later }
def FlatFromCardSaid : Prop := Claim7.holds Tryz.pinned (.plain (OpenSpec.ofChange flatFromSpec)) flatFromCard

/-- THE TIED CARD OF 'mercatorlaw2.FlatStretch'. -/
def flatStretchCard : Claim7 := { stood := { row := flatStretchRow, standIns := [], harness := (true, "06c5bba23a77847126507a29311d07948f718210af0f64e8be3991d9a888beab"), looks := true }, kinds := [], alts := [], laidByText := true, laidKinds := [.handle, .sentinel, .sentinel, .sentinel, .sentinel, .sentinel, .sentinel, .sentinel, .sentinel], laidTests := true, laidLooks := .later }
def FlatStretchCardSaid : Prop := Claim7.holds Tryz.pinned (.plain (OpenSpec.ofChange flatStretchSpec)) flatStretchCard

/-- THE TIED CARD OF 'mercatorlaw2.WaveTo'. -/
def waveToCard : Claim7 := { stood := { row := waveToRow, standIns := [], harness := (true, "06c5bba23a77847126507a29311d07948f718210af0f64e8be3991d9a888beab"), looks := true }, kinds := [], alts := [], laidByText := true, laidKinds := [.handle, .sentinel, .sentinel, .sentinel, .sentinel, .sentinel, .sentinel, .sentinel, .sentinel], laidTests := true, laidLooks := .later }
def WaveToCardSaid : Prop := Claim7.holds Tryz.pinned (.plain (OpenSpec.ofChange waveToSpec)) waveToCard

/-- THE TIED CARD OF 'mercatorlaw2.WaveFrom'. -/
def waveFromCard : Claim7 := { stood := { row := waveFromRow, standIns := [], harness := (true, "06c5bba23a77847126507a29311d07948f718210af0f64e8be3991d9a888beab"), looks := true }, kinds := [], alts := [], laidByText := true, laidKinds := [.handle, .sentinel, .sentinel, .sentinel, .sentinel, .sentinel, .sentinel, .sentinel, .sentinel], laidTests := true, laidLooks := .later }
def WaveFromCardSaid : Prop := Claim7.holds Tryz.pinned (.plain (OpenSpec.ofChange waveFromSpec)) waveFromCard

/-- THE SECOND FORM's CARD OF 'mercatorlaw2.FlatTo'. -/
def flatToUptoCard : Claim7 := { stood := { row := flatToUptoRow, standIns := [], harness := (true, "06c5bba23a77847126507a29311d07948f718210af0f64e8be3991d9a888beab"), looks := true }, kinds := [], alts := [], laidByText := true, laidKinds := [.handle, .sentinel, .sentinel, .sentinel, .sentinel, .sentinel, .sentinel, .sentinel, .sentinel], laidTests := true, laidLooks := .later }
def FlatToUptoCardSaid : Prop := Claim7.holds Tryz.pinned (.plain (OpenSpec.upto flatToSpec)) flatToUptoCard

/-- THE SECOND FORM's CARD OF 'mercatorlaw2.FlatFrom'. -/
def flatFromUptoCard : Claim7 := { stood := { row := flatFromUptoRow, standIns := [], harness := (true, "06c5bba23a77847126507a29311d07948f718210af0f64e8be3991d9a888beab"), looks := true }, kinds := [], alts := [], laidByText := true, laidKinds := [.handle, .sentinel, .sentinel, .sentinel, .sentinel, .sentinel, .sentinel, .sentinel, .sentinel], laidTests := true, laidLooks := .later }
def FlatFromUptoCardSaid : Prop := Claim7.holds Tryz.pinned (.plain (OpenSpec.upto flatFromSpec)) flatFromUptoCard

/-- THE SECOND FORM's CARD OF 'mercatorlaw2.FlatStretch'. -/
def flatStretchUptoCard : Claim7 := { stood := { row := flatStretchUptoRow, standIns := [], harness := (true, "06c5bba23a77847126507a29311d07948f718210af0f64e8be3991d9a888beab"), looks := true }, kinds := [], alts := [], laidByText := true, laidKinds := [.handle, .sentinel, .sentinel, .sentinel, .sentinel, .sentinel, .sentinel, .sentinel, .sentinel], laidTests := true, laidLooks := .later }
def FlatStretchUptoCardSaid : Prop := Claim7.holds Tryz.pinned (.plain (OpenSpec.upto flatStretchSpec)) flatStretchUptoCard

/-- THE SECOND FORM's CARD OF 'mercatorlaw2.WaveTo'. -/
def waveToUptoCard : Claim7 := { stood := { row := waveToUptoRow, standIns := [], harness := (true, "06c5bba23a77847126507a29311d07948f718210af0f64e8be3991d9a888beab"), looks := true }, kinds := [], alts := [], laidByText := true, laidKinds := [.handle, .sentinel, .sentinel, .sentinel, .sentinel, .sentinel, .sentinel, .sentinel, .sentinel], laidTests := true, laidLooks := .later }
def WaveToUptoCardSaid : Prop := Claim7.holds Tryz.pinned (.plain (OpenSpec.upto waveToSpec)) waveToUptoCard

/-- THE SECOND FORM's CARD OF 'mercatorlaw2.WaveFrom'. -/
def waveFromUptoCard : Claim7 := { stood := { row := waveFromUptoRow, standIns := [], harness := (true, "06c5bba23a77847126507a29311d07948f718210af0f64e8be3991d9a888beab"), looks := true }, kinds := [], alts := [], laidByText := true, laidKinds := [.handle, .sentinel, .sentinel, .sentinel, .sentinel, .sentinel, .sentinel, .sentinel, .sentinel], laidTests := true, laidLooks := .later }
def WaveFromUptoCardSaid : Prop := Claim7.holds Tryz.pinned (.plain (OpenSpec.upto waveFromSpec)) waveFromUptoCard
end Rows
end Go.Proofs.YtkebgnemccaimaaGreatDoor
