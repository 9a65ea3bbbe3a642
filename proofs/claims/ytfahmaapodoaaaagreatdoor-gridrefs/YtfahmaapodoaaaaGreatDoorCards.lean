/-
  DERIVED. GIVEN WITH THE SEED: THE CARDS: each row of YtfahmaapodoaaaaGreatDoorRows.lean that lists a variable, with what it lists TIED to the program's text (the seventh form; the later family's looks); each row that meets fmt, with fmt's text TOLD by the authors' own Lean function (tested against real Go, not proved from fmt's source: count such statements apart). THE CARD IS WHAT COUNTS. Prove the row's statement (the work); the ties are given (YtfahmaapodoaaaaGreatDoorTie.lean); close each card by the builder's one call (the guide's Derived/Test/ToyasCard.lean, 'card_holds'). Laid BY PROGRAM, IN A SANDBOX (cutbox-door.mjs). By AI agents, Wed Nov 11 2026. No macro, syntax, notation, axiom, sorry.
-/
import Derived.Test.YtfahmaapodoaaaaGreatDoorRows
import GoSem.ClaimSeven
namespace Go.Proofs.YtfahmaapodoaaaaGreatDoor
namespace Rows

/-- THE TIED CARD OF 'mercatorlaw2.GridRefs'. -/
def gridRefsCard : Claim7 := { stood := { row := gridRefsRow, standIns := [], harness := (true, "b0a4c3a6b927c8798760e68a8b38b880ad3c49d9097290ea7ebb3605e9c1bff7"), looks := true }, kinds := [], alts := [], laidByText := true, laidKinds := [.data, .data, .data, .handle, .sentinel, .sentinel, .sentinel, .sentinel, .sentinel, .sentinel, .sentinel, .sentinel, .sentinel, .sentinel], laidTests := true, laidLooks := .later }
def GridRefsCardSaid : Prop := Claim7.holds Tryz.pinned (.plain (OpenSpec.ofChange gridRefsSpec)) gridRefsCard

/-- THE SECOND FORM's CARD OF 'mercatorlaw2.GridRefs'. -/
def gridRefsUptoCard : Claim7 := { stood := { row := gridRefsUptoRow, standIns := [], harness := (true, "b0a4c3a6b927c8798760e68a8b38b880ad3c49d9097290ea7ebb3605e9c1bff7"), looks := true }, kinds := [], alts := [], laidByText := true, laidKinds := [.data, .data, .data, .handle, .sentinel, .sentinel, .sentinel, .sentinel, .sentinel, .sentinel, .sentinel, .sentinel, .sentinel, .sentinel], laidTests := true, laidLooks := .later }
def GridRefsUptoCardSaid : Prop := Claim7.holds Tryz.pinned (.plain (OpenSpec.upto gridRefsSpec)) gridRefsUptoCard
end Rows
end Go.Proofs.YtfahmaapodoaaaaGreatDoor
