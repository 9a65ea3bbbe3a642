/-
  DERIVED. GIVEN WITH THE SEED: THE CARDS: each row of YtmiamfnnccjmeabDoorRows.lean that lists a variable, with what it lists TIED to the program's text (the seventh form; the later family's looks); each row that meets fmt, with fmt's text TOLD by the authors' own Lean function (tested against real Go, not proved from fmt's source: count such statements apart). THE CARD IS WHAT COUNTS. Prove the row's statement (the work); the ties are given (YtmiamfnnccjmeabDoorTie.lean); close each card by the builder's one call (the guide's Derived/Test/ToyasCard.lean, 'card_holds'). Laid BY PROGRAM, IN A SANDBOX (cutbox-door.mjs). By AI agents, Wed Nov 11 2026. No macro, syntax, notation, axiom, sorry.
-/
import Derived.Test.YtmiamfnnccjmeabDoorRows
import GoSem.ClaimSeven
namespace Go.Proofs.YtmiamfnnccjmeabDoor
namespace Rows

/-- THE TIED CARD OF 'mercatorlaw2.GlobeKnown'. -/
def globeKnownCard : Claim7 := { stood := { row := globeKnownRow, standIns := [], harness := (true, "acea65bc84f0a1fc59d7a5ca26a3c67c87d50cae51ee312cb16d23035e9f8d9b"), looks := true }, kinds := [], alts := [], laidByText := true, laidKinds := [.handle, .sentinel, .sentinel, .sentinel, .sentinel, .sentinel, .sentinel, .sentinel, .sentinel], laidTests := true, laidLooks := .later }
def GlobeKnownCardSaid : Prop := Claim7.holds Tryd.pinned (.plain (OpenSpec.ofChange globeKnownSpec)) globeKnownCard

/-- THE TIED CARD OF 'mercatorlaw2.GlobePlaces'. -/
def globePlacesCard : Claim7 := { stood := { row := globePlacesRow, standIns := [], harness := (true, "acea65bc84f0a1fc59d7a5ca26a3c67c87d50cae51ee312cb16d23035e9f8d9b"), looks := true }, kinds := [], alts := [], laidByText := true, laidKinds := [.handle, .sentinel, .sentinel, .sentinel, .sentinel, .sentinel, .sentinel, .sentinel, .sentinel], laidTests := true, laidLooks := .later }
def GlobePlacesCardSaid : Prop := Claim7.holds Tryd.pinned (.plain (OpenSpec.ofChange globePlacesSpec)) globePlacesCard

/-- THE TIED CARD OF 'mercatorlaw2.GlobeBack'. -/
def globeBackCard : Claim7 := { stood := { row := globeBackRow, standIns := [], harness := (true, "acea65bc84f0a1fc59d7a5ca26a3c67c87d50cae51ee312cb16d23035e9f8d9b"), looks := true }, kinds := [], alts := [], laidByText := true, laidKinds := [.sentinel, .sentinel], laidTests := true, laidLooks := .later }
def GlobeBackCardSaid : Prop := Claim7.holds Tryd.pinned (.plain (OpenSpec.ofChange globeBackSpec)) globeBackCard

/-- THE SECOND FORM's CARD OF 'mercatorlaw2.GlobeKnown'. -/
def globeKnownUptoCard : Claim7 := { stood := { row := globeKnownUptoRow, standIns := [], harness := (true, "acea65bc84f0a1fc59d7a5ca26a3c67c87d50cae51ee312cb16d23035e9f8d9b"), looks := true }, kinds := [], alts := [], laidByText := true, laidKinds := [.handle, .sentinel, .sentinel, .sentinel, .sentinel, .sentinel, .sentinel, .sentinel, .sentinel], laidTests := true, laidLooks := .later }
def GlobeKnownUptoCardSaid : Prop := Claim7.holds Tryd.pinned (.plain (OpenSpec.upto globeKnownSpec)) globeKnownUptoCard

/-- THE SECOND FORM's CARD OF 'mercatorlaw2.GlobePlaces'. -/
def globePlacesUptoCard : Claim7 := { stood := { row := globePlacesUptoRow, standIns := [], harness := (true, "acea65bc84f0a1fc59d7a5ca26a3c67c87d50cae51ee312cb16d23035e9f8d9b"), looks := true }, kinds := [], alts := [], laidByText := true, laidKinds := [.handle, .sentinel, .sentinel, .sentinel, .sentinel, .sentinel, .sentinel, .sentinel, .sentinel], laidTests := true, laidLooks := .later }
def GlobePlacesUptoCardSaid : Prop := Claim7.holds Tryd.pinned (.plain (OpenSpec.upto globePlacesSpec)) globePlacesUptoCard

/-- THE SECOND FORM's CARD OF 'mercatorlaw2.GlobeBack'. -/
def globeBackUptoCard : Claim7 := { stood := { row := globeBackUptoRow, standIns := [], harness := (true, "acea65bc84f0a1fc59d7a5ca26a3c67c87d50cae51ee312cb16d23035e9f8d9b"), looks := true }, kinds := [], alts := [], laidByText := true, laidKinds := [.sentinel, .sentinel], laidTests := true, laidLooks := .later }
def GlobeBackUptoCardSaid : Prop := Claim7.holds Tryd.pinned (.plain (OpenSpec.upto globeBackSpec)) globeBackUptoCard
end Rows
end Go.Proofs.YtmiamfnnccjmeabDoor
