/-
  DERIVED. GIVEN WITH THE SEED: THE CARDS: each row of YtnhehehbidhlcaaDoorRows.lean that lists a variable, with what it lists TIED to the program's text (the seventh form; the later family's looks); each row that meets fmt, with fmt's text TOLD by the authors' own Lean function (tested against real Go, not proved from fmt's source: count such statements apart). THE CARD IS WHAT COUNTS. Prove the row's statement (the work); the ties are given (YtnhehehbidhlcaaDoorTie.lean); close each card by the builder's one call (the guide's Derived/Test/ToyasCard.lean, 'card_holds'). Laid BY PROGRAM, IN A SANDBOX (cutbox-door.mjs). By AI agents, Wed Nov 11 2026. No macro, syntax, notation, axiom, sorry.
-/
import Derived.Test.YtnhehehbidhlcaaDoorRows
import GoSem.ClaimSeven
namespace Go.Proofs.YtnhehehbidhlcaaDoor
namespace Rows

/-- THE TIED CARD OF 'mercatorlaw5.ShapeRings'. -/
def shapeRingsCard : Claim7 := { stood := { row := shapeRingsRow, standIns := [], harness := (true, "927d7d5f10d541e5802f1b13227cbfee20f19e0556c82fe7ee38045514ec1e45"), looks := true }, kinds := [], alts := [], laidByText := true, laidKinds := [.handle, .sentinel, .sentinel, .sentinel, .sentinel, .sentinel, .sentinel, .sentinel, .sentinel], laidTests := true, laidLooks := .later }
def ShapeRingsCardSaid : Prop := Claim7.holds Tryd.pinned (.plain (OpenSpec.ofChange shapeRingsSpec)) shapeRingsCard

/-- THE TIED CARD OF 'mercatorlaw5.ShapeTurned'. -/
def shapeTurnedCard : Claim7 := { stood := { row := shapeTurnedRow, standIns := [], harness := (true, "927d7d5f10d541e5802f1b13227cbfee20f19e0556c82fe7ee38045514ec1e45"), looks := true }, kinds := [], alts := [], laidByText := true, laidKinds := [.sentinel, .sentinel], laidTests := true, laidLooks := .later }
def ShapeTurnedCardSaid : Prop := Claim7.holds Tryd.pinned (.plain (OpenSpec.ofChange shapeTurnedSpec)) shapeTurnedCard

/-- THE SECOND FORM's CARD OF 'mercatorlaw5.ShapeRings'. -/
def shapeRingsUptoCard : Claim7 := { stood := { row := shapeRingsUptoRow, standIns := [], harness := (true, "927d7d5f10d541e5802f1b13227cbfee20f19e0556c82fe7ee38045514ec1e45"), looks := true }, kinds := [], alts := [], laidByText := true, laidKinds := [.handle, .sentinel, .sentinel, .sentinel, .sentinel, .sentinel, .sentinel, .sentinel, .sentinel], laidTests := true, laidLooks := .later }
def ShapeRingsUptoCardSaid : Prop := Claim7.holds Tryd.pinned (.plain (OpenSpec.upto shapeRingsSpec)) shapeRingsUptoCard

/-- THE SECOND FORM's CARD OF 'mercatorlaw5.ShapeTurned'. -/
def shapeTurnedUptoCard : Claim7 := { stood := { row := shapeTurnedUptoRow, standIns := [], harness := (true, "927d7d5f10d541e5802f1b13227cbfee20f19e0556c82fe7ee38045514ec1e45"), looks := true }, kinds := [], alts := [], laidByText := true, laidKinds := [.sentinel, .sentinel], laidTests := true, laidLooks := .later }
def ShapeTurnedUptoCardSaid : Prop := Claim7.holds Tryd.pinned (.plain (OpenSpec.upto shapeTurnedSpec)) shapeTurnedUptoCard
end Rows
end Go.Proofs.YtnhehehbidhlcaaDoor
