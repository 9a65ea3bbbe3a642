/-
  DERIVED. GIVEN WITH THE SEED: THE CARDS: each row of YtehkonddgiakaaaDoorRows.lean that lists a variable, with what it lists TIED to the program's text (the seventh form; the later family's looks); each row that meets fmt, with fmt's text TOLD by the authors' own Lean function (tested against real Go, not proved from fmt's source: count such statements apart). THE CARD IS WHAT COUNTS. Prove the row's statement (the work); the ties are given (YtehkonddgiakaaaDoorTie.lean); close each card by the builder's one call (the guide's Derived/Test/ToyasCard.lean, 'card_holds'). Laid BY PROGRAM, IN A SANDBOX (cutbox-door.mjs). By AI agents, Wed Nov 11 2026. No macro, syntax, notation, axiom, sorry.
-/
import Derived.Test.YtehkonddgiakaaaDoorRows
import GoSem.ClaimSeven
namespace Go.Proofs.YtehkonddgiakaaaDoor
namespace Rows

/-- THE TIED CARD OF 'mercatorlaw3.FixSolves'. -/
def fixSolvesCard : Claim7 := { stood := { row := fixSolvesRow, standIns := [], harness := (true, "903988ce526d26500e300ebc577ed4e37bae75c4c62113f1d7103537d6197ba6"), looks := true }, kinds := [], alts := [], laidByText := true, laidKinds := [.handle, .sentinel, .sentinel, .sentinel, .sentinel, .sentinel, .sentinel, .sentinel, .sentinel], laidTests := true, laidLooks := .later }
def FixSolvesCardSaid : Prop := Claim7.holds Tryd.pinned (.plain (OpenSpec.ofChange fixSolvesSpec)) fixSolvesCard

/-- THE TIED CARD OF 'mercatorlaw3.FixNearest'. -/
def fixNearestCard : Claim7 := { stood := { row := fixNearestRow, standIns := [], harness := (true, "903988ce526d26500e300ebc577ed4e37bae75c4c62113f1d7103537d6197ba6"), looks := true }, kinds := [], alts := [], laidByText := true, laidKinds := [.handle, .sentinel, .sentinel, .sentinel, .sentinel, .sentinel, .sentinel, .sentinel, .sentinel], laidTests := true, laidLooks := .later }
def FixNearestCardSaid : Prop := Claim7.holds Tryd.pinned (.plain (OpenSpec.ofChange fixNearestSpec)) fixNearestCard

/-- THE TIED CARD OF 'mercatorlaw3.FixCircles'. -/
def fixCirclesCard : Claim7 := { stood := { row := fixCirclesRow, standIns := [], harness := (true, "903988ce526d26500e300ebc577ed4e37bae75c4c62113f1d7103537d6197ba6"), looks := true }, kinds := [], alts := [], laidByText := true, laidKinds := [.handle, .sentinel, .sentinel, .sentinel, .sentinel, .sentinel, .sentinel, .sentinel, .sentinel], laidTests := true, laidLooks := .later }
def FixCirclesCardSaid : Prop := Claim7.holds Tryd.pinned (.plain (OpenSpec.ofChange fixCirclesSpec)) fixCirclesCard

/-- THE SECOND FORM's CARD OF 'mercatorlaw3.FixSolves'. -/
def fixSolvesUptoCard : Claim7 := { stood := { row := fixSolvesUptoRow, standIns := [], harness := (true, "903988ce526d26500e300ebc577ed4e37bae75c4c62113f1d7103537d6197ba6"), looks := true }, kinds := [], alts := [], laidByText := true, laidKinds := [.handle, .sentinel, .sentinel, .sentinel, .sentinel, .sentinel, .sentinel, .sentinel, .sentinel], laidTests := true, laidLooks := .later }
def FixSolvesUptoCardSaid : Prop := Claim7.holds Tryd.pinned (.plain (OpenSpec.upto fixSolvesSpec)) fixSolvesUptoCard

/-- THE SECOND FORM's CARD OF 'mercatorlaw3.FixNearest'. -/
def fixNearestUptoCard : Claim7 := { stood := { row := fixNearestUptoRow, standIns := [], harness := (true, "903988ce526d26500e300ebc577ed4e37bae75c4c62113f1d7103537d6197ba6"), looks := true }, kinds := [], alts := [], laidByText := true, laidKinds := [.handle, .sentinel, .sentinel, .sentinel, .sentinel, .sentinel, .sentinel, .sentinel, .sentinel], laidTests := true, laidLooks := .later }
def FixNearestUptoCardSaid : Prop := Claim7.holds Tryd.pinned (.plain (OpenSpec.upto fixNearestSpec)) fixNearestUptoCard

/-- THE SECOND FORM's CARD OF 'mercatorlaw3.FixCircles'. -/
def fixCirclesUptoCard : Claim7 := { stood := { row := fixCirclesUptoRow, standIns := [], harness := (true, "903988ce526d26500e300ebc577ed4e37bae75c4c62113f1d7103537d6197ba6"), looks := true }, kinds := [], alts := [], laidByText := true, laidKinds := [.handle, .sentinel, .sentinel, .sentinel, .sentinel, .sentinel, .sentinel, .sentinel, .sentinel], laidTests := true, laidLooks := .later }
def FixCirclesUptoCardSaid : Prop := Claim7.holds Tryd.pinned (.plain (OpenSpec.upto fixCirclesSpec)) fixCirclesUptoCard
end Rows
end Go.Proofs.YtehkonddgiakaaaDoor
