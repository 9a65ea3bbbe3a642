/-
  DERIVED. GIVEN WITH THE SEED: THE CARDS: each row of YtgjjgicojedefaaDoorRows.lean that lists a variable, with what it lists TIED to the program's text (the seventh form; the later family's looks); each row that meets fmt, with fmt's text TOLD by the authors' own Lean function (tested against real Go, not proved from fmt's source: count such statements apart). THE CARD IS WHAT COUNTS. Prove the row's statement (the work); the ties are given (YtgjjgicojedefaaDoorTie.lean); close each card by the builder's one call (the guide's Derived/Test/ToyasCard.lean, 'card_holds'). Laid BY PROGRAM, IN A SANDBOX (cutbox-door.mjs). By AI agents, Wed Nov 11 2026. No macro, syntax, notation, axiom, sorry.
-/
import Derived.Test.YtgjjgicojedefaaDoorRows
import GoSem.ClaimSeven
namespace Go.Proofs.YtgjjgicojedefaaDoor
namespace Rows

/-- THE TIED CARD OF 'mercatorlaw1.Names'. -/
def namesCard : Claim7 := { stood := { row := namesRow, standIns := [], harness := (true, "b08b8ec2fbce8720091f042434ccd0faf529687050dda566d01dde2241bc12ef"), looks := true }, kinds := [], alts := [], laidByText := true, laidKinds := [.handle, .sentinel, .sentinel, .sentinel, .sentinel, .sentinel, .sentinel, .sentinel, .sentinel], laidTests := true, laidLooks := .later }
def NamesCardSaid : Prop := Claim7.holds Tryd.pinned (.plain (OpenSpec.ofChange namesSpec)) namesCard

/-- THE TIED CARD OF 'mercatorlaw1.GrainMakes'. -/
def grainMakesCard : Claim7 := { stood := { row := grainMakesRow, standIns := [], harness := (true, "b08b8ec2fbce8720091f042434ccd0faf529687050dda566d01dde2241bc12ef"), looks := true }, kinds := [], alts := [], laidByText := true, laidKinds := [.handle, .sentinel, .sentinel, .sentinel, .sentinel, .sentinel, .sentinel, .sentinel, .sentinel], laidTests := true, laidLooks := .later }
def GrainMakesCardSaid : Prop := Claim7.holds Tryd.pinned (.plain (OpenSpec.ofChange grainMakesSpec)) grainMakesCard

/-- THE TIED CARD OF 'mercatorlaw1.GrainReckons'. -/
def grainReckonsCard : Claim7 := { stood := { row := grainReckonsRow, standIns := [], harness := (true, "b08b8ec2fbce8720091f042434ccd0faf529687050dda566d01dde2241bc12ef"), looks := true }, kinds := [], alts := [], laidByText := true, laidKinds := [.handle, .sentinel, .sentinel, .sentinel, .sentinel, .sentinel, .sentinel, .sentinel, .sentinel], laidTests := true, laidLooks := .later }
def GrainReckonsCardSaid : Prop := Claim7.holds Tryd.pinned (.plain (OpenSpec.ofChange grainReckonsSpec)) grainReckonsCard

/-- THE TIED CARD OF 'mercatorlaw1.GrainTexts'. -/
def grainTextsCard : Claim7 := { stood := { row := grainTextsRow, standIns := [], harness := (true, "b08b8ec2fbce8720091f042434ccd0faf529687050dda566d01dde2241bc12ef"), looks := true }, kinds := [], alts := [], laidByText := true, laidKinds := [.data, .data, .data, .handle, .sentinel, .sentinel, .sentinel, .sentinel, .sentinel, .sentinel, .sentinel, .sentinel], laidTests := true, laidLooks := .later }
def GrainTextsCardSaid : Prop := Claim7.holds Tryd.pinned (.plain (OpenSpec.ofChange grainTextsSpec)) grainTextsCard

/-- THE SECOND FORM's CARD OF 'mercatorlaw1.Names'. -/
def namesUptoCard : Claim7 := { stood := { row := namesUptoRow, standIns := [], harness := (true, "b08b8ec2fbce8720091f042434ccd0faf529687050dda566d01dde2241bc12ef"), looks := true }, kinds := [], alts := [], laidByText := true, laidKinds := [.handle, .sentinel, .sentinel, .sentinel, .sentinel, .sentinel, .sentinel, .sentinel, .sentinel], laidTests := true, laidLooks := .later }
def NamesUptoCardSaid : Prop := Claim7.holds Tryd.pinned (.plain (OpenSpec.upto namesSpec)) namesUptoCard

/-- THE SECOND FORM's CARD OF 'mercatorlaw1.GrainMakes'. -/
def grainMakesUptoCard : Claim7 := { stood := { row := grainMakesUptoRow, standIns := [], harness := (true, "b08b8ec2fbce8720091f042434ccd0faf529687050dda566d01dde2241bc12ef"), looks := true }, kinds := [], alts := [], laidByText := true, laidKinds := [.handle, .sentinel, .sentinel, .sentinel, .sentinel, .sentinel, .sentinel, .sentinel, .sentinel], laidTests := true, laidLooks := .later }
def GrainMakesUptoCardSaid : Prop := Claim7.holds Tryd.pinned (.plain (OpenSpec.upto grainMakesSpec)) grainMakesUptoCard

/-- THE SECOND FORM's CARD OF 'mercatorlaw1.GrainReckons'. -/
def grainReckonsUptoCard : Claim7 := { stood := { row := grainReckonsUptoRow, standIns := [], harness := (true, "b08b8ec2fbce8720091f042434ccd0faf529687050dda566d01dde2241bc12ef"), looks := true }, kinds := [], alts := [], laidByText := true, laidKinds := [.handle, .sentinel, .sentinel, .sentinel, .sentinel, .sentinel, .sentinel, .sentinel, .sentinel], laidTests := true, laidLooks := .later }
def GrainReckonsUptoCardSaid : Prop := Claim7.holds Tryd.pinned (.plain (OpenSpec.upto grainReckonsSpec)) grainReckonsUptoCard

/-- THE SECOND FORM's CARD OF 'mercatorlaw1.GrainTexts'. -/
def grainTextsUptoCard : Claim7 := { stood := { row := grainTextsUptoRow, standIns := [], harness := (true, "b08b8ec2fbce8720091f042434ccd0faf529687050dda566d01dde2241bc12ef"), looks := true }, kinds := [], alts := [], laidByText := true, laidKinds := [.data, .data, .data, .handle, .sentinel, .sentinel, .sentinel, .sentinel, .sentinel, .sentinel, .sentinel, .sentinel], laidTests := true, laidLooks := .later }
def GrainTextsUptoCardSaid : Prop := Claim7.holds Tryd.pinned (.plain (OpenSpec.upto grainTextsSpec)) grainTextsUptoCard
end Rows
end Go.Proofs.YtgjjgicojedefaaDoor
