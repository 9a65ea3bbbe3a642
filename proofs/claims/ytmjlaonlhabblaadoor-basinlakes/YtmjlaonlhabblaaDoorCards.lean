/-
  DERIVED. GIVEN WITH THE SEED: THE CARDS: each row of YtmjlaonlhabblaaDoorRows.lean that lists a variable, with what it lists TIED to the program's text (the seventh form; the later family's looks); each row that meets fmt, with fmt's text TOLD by the authors' own Lean function (tested against real Go, not proved from fmt's source: count such statements apart). THE CARD IS WHAT COUNTS. Prove the row's statement (the work); the ties are given (YtmjlaonlhabblaaDoorTie.lean); close each card by the builder's one call (the guide's Derived/Test/ToyasCard.lean, 'card_holds'). Laid BY PROGRAM, IN A SANDBOX (cutbox-door.mjs). By AI agents, Wed Nov 11 2026. No macro, syntax, notation, axiom, sorry.
-/
import Derived.Test.YtmjlaonlhabblaaDoorRows
import GoSem.ClaimSeven
namespace Go.Proofs.YtmjlaonlhabblaaDoor
namespace Rows

/-- THE TIED CARD OF 'mercatorlaw4.DrainStreams'. -/
def drainStreamsCard : Claim7 := { stood := { row := drainStreamsRow, standIns := [], harness := (true, "cad211b2d2f36c257bd957dbc8e686c386379c1faef56f2e2618ad967da88b9f"), looks := true }, kinds := [], alts := [], laidByText := true, laidKinds := [.handle, .sentinel, .sentinel, .sentinel, .sentinel, .sentinel, .sentinel, .sentinel, .sentinel], laidTests := true, laidLooks := .later }
def DrainStreamsCardSaid : Prop := Claim7.holds Tryd.pinned (.plain (OpenSpec.ofChange drainStreamsSpec)) drainStreamsCard

/-- THE TIED CARD OF 'mercatorlaw4.BasinLakes'. -/
def basinLakesCard : Claim7 := { stood := { row := basinLakesRow, standIns := [], harness := (true, "cad211b2d2f36c257bd957dbc8e686c386379c1faef56f2e2618ad967da88b9f"), looks := true }, kinds := [], alts := [], laidByText := true, laidKinds := [.handle, .sentinel, .sentinel, .sentinel, .sentinel, .sentinel, .sentinel, .sentinel, .sentinel], laidTests := true, laidLooks := .later }
def BasinLakesCardSaid : Prop := Claim7.holds Tryd.pinned (.plain (OpenSpec.ofChange basinLakesSpec)) basinLakesCard

/-- THE SECOND FORM's CARD OF 'mercatorlaw4.DrainStreams'. -/
def drainStreamsUptoCard : Claim7 := { stood := { row := drainStreamsUptoRow, standIns := [], harness := (true, "cad211b2d2f36c257bd957dbc8e686c386379c1faef56f2e2618ad967da88b9f"), looks := true }, kinds := [], alts := [], laidByText := true, laidKinds := [.handle, .sentinel, .sentinel, .sentinel, .sentinel, .sentinel, .sentinel, .sentinel, .sentinel], laidTests := true, laidLooks := .later }
def DrainStreamsUptoCardSaid : Prop := Claim7.holds Tryd.pinned (.plain (OpenSpec.upto drainStreamsSpec)) drainStreamsUptoCard

/-- THE SECOND FORM's CARD OF 'mercatorlaw4.BasinLakes'. -/
def basinLakesUptoCard : Claim7 := { stood := { row := basinLakesUptoRow, standIns := [], harness := (true, "cad211b2d2f36c257bd957dbc8e686c386379c1faef56f2e2618ad967da88b9f"), looks := true }, kinds := [], alts := [], laidByText := true, laidKinds := [.handle, .sentinel, .sentinel, .sentinel, .sentinel, .sentinel, .sentinel, .sentinel, .sentinel], laidTests := true, laidLooks := .later }
def BasinLakesUptoCardSaid : Prop := Claim7.holds Tryd.pinned (.plain (OpenSpec.upto basinLakesSpec)) basinLakesUptoCard
end Rows
end Go.Proofs.YtmjlaonlhabblaaDoor
