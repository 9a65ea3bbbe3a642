/-
  DERIVED. GIVEN WITH THE SEED: THE CARDS: each row of YtlhligeicnejbaaDoorRows.lean that lists a variable, with what it lists TIED to the program's text (the seventh form; the later family's looks); each row that meets fmt, with fmt's text TOLD by the authors' own Lean function (tested against real Go, not proved from fmt's source: count such statements apart). THE CARD IS WHAT COUNTS. Prove the row's statement (the work); the ties are given (YtlhligeicnejbaaDoorTie.lean); close each card by the builder's one call (the guide's Derived/Test/ToyasCard.lean, 'card_holds'). Laid BY PROGRAM, IN A SANDBOX (cutbox-door.mjs). By AI agents, Wed Nov 11 2026. No macro, syntax, notation, axiom, sorry.
-/
import Derived.Test.YtlhligeicnejbaaDoorRows
import GoSem.ClaimSeven
namespace Go.Proofs.YtlhligeicnejbaaDoor
namespace Rows

/-- THE TIED CARD OF 'mercatorlaw4.DrainStreams'. -/
def drainStreamsCard : Claim7 := { stood := { row := drainStreamsRow, standIns := [], harness := (true, "0f17407ab2ca5e8c3ba2746e238f898e5c7288d4e69e9a78a733a49221f8e498"), looks := true }, kinds := [], alts := [], laidByText := true, laidKinds := [.handle, .sentinel, .sentinel, .sentinel, .sentinel, .sentinel, .sentinel, .sentinel, .sentinel], laidTests := true, laidLooks := .later }
def DrainStreamsCardSaid : Prop := Claim7.holds Tryd.pinned (.plain (OpenSpec.ofChange drainStreamsSpec)) drainStreamsCard

/-- THE SECOND FORM's CARD OF 'mercatorlaw4.DrainStreams'. -/
def drainStreamsUptoCard : Claim7 := { stood := { row := drainStreamsUptoRow, standIns := [], harness := (true, "0f17407ab2ca5e8c3ba2746e238f898e5c7288d4e69e9a78a733a49221f8e498"), looks := true }, kinds := [], alts := [], laidByText := true, laidKinds := [.handle, .sentinel, .sentinel, .sentinel, .sentinel, .sentinel, .sentinel, .sentinel, .sentinel], laidTests := true, laidLooks := .later }
def DrainStreamsUptoCardSaid : Prop := Claim7.holds Tryd.pinned (.plain (OpenSpec.upto drainStreamsSpec)) drainStreamsUptoCard
end Rows
end Go.Proofs.YtlhligeicnejbaaDoor
