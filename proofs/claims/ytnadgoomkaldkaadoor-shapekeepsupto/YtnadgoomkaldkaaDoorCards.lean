/-
  DERIVED. GIVEN WITH THE SEED: THE CARDS: each row of YtnadgoomkaldkaaDoorRows.lean that lists a variable, with what it lists TIED to the program's text (the seventh form; the later family's looks); each row that meets fmt, with fmt's text TOLD by the authors' own Lean function (tested against real Go, not proved from fmt's source: count such statements apart). THE CARD IS WHAT COUNTS. Prove the row's statement (the work); the ties are given (YtnadgoomkaldkaaDoorTie.lean); close each card by the builder's one call (the guide's Derived/Test/ToyasCard.lean, 'card_holds'). Laid BY PROGRAM, IN A SANDBOX (cutbox-door.mjs). By AI agents, Wed Nov 11 2026. No macro, syntax, notation, axiom, sorry.
-/
import Derived.Test.YtnadgoomkaldkaaDoorRows
import GoSem.ClaimSeven
namespace Go.Proofs.YtnadgoomkaldkaaDoor
namespace Rows

/-- THE TIED CARD OF 'mercatorlaw5.ShapeFaces'. -/
def shapeFacesCard : Claim7 := { stood := { row := shapeFacesRow, standIns := [], harness := (true, "f9b4ef06f98e49c716c370e62a25b1b65642757566be9262fa7f9f1e0d6c2e91"), looks := true }, kinds := [], alts := [], laidByText := true, laidKinds := [.handle, .sentinel, .sentinel, .sentinel, .sentinel, .sentinel, .sentinel, .sentinel, .sentinel], laidTests := true, laidLooks := .later }
def ShapeFacesCardSaid : Prop := Claim7.holds Tryd.pinned (.plain (OpenSpec.ofChange shapeFacesSpec)) shapeFacesCard

/-- THE TIED CARD OF 'mercatorlaw5.ShapeThins'. -/
def shapeThinsCard : Claim7 := { stood := { row := shapeThinsRow, standIns := [], harness := (true, "f9b4ef06f98e49c716c370e62a25b1b65642757566be9262fa7f9f1e0d6c2e91"), looks := true }, kinds := [], alts := [], laidByText := true, laidKinds := [.handle, .sentinel, .sentinel, .sentinel, .sentinel, .sentinel, .sentinel, .sentinel, .sentinel], laidTests := true, laidLooks := .later }
def ShapeThinsCardSaid : Prop := Claim7.holds Tryd.pinned (.plain (OpenSpec.ofChange shapeThinsSpec)) shapeThinsCard

/-- THE TIED CARD OF 'mercatorlaw5.ShapeKeeps'. -/
def shapeKeepsCard : Claim7 := { stood := { row := shapeKeepsRow, standIns := [], harness := (true, "f9b4ef06f98e49c716c370e62a25b1b65642757566be9262fa7f9f1e0d6c2e91"), looks := true }, kinds := [], alts := [], laidByText := true, laidKinds := [.sentinel, .sentinel, .sentinel], laidTests := true, laidLooks := .later }
def ShapeKeepsCardSaid : Prop := Claim7.holds Tryd.pinned (.plain (OpenSpec.ofChange shapeKeepsSpec)) shapeKeepsCard

/-- THE SECOND FORM's CARD OF 'mercatorlaw5.ShapeFaces'. -/
def shapeFacesUptoCard : Claim7 := { stood := { row := shapeFacesUptoRow, standIns := [], harness := (true, "f9b4ef06f98e49c716c370e62a25b1b65642757566be9262fa7f9f1e0d6c2e91"), looks := true }, kinds := [], alts := [], laidByText := true, laidKinds := [.handle, .sentinel, .sentinel, .sentinel, .sentinel, .sentinel, .sentinel, .sentinel, .sentinel], laidTests := true, laidLooks := .later }
def ShapeFacesUptoCardSaid : Prop := Claim7.holds Tryd.pinned (.plain (OpenSpec.upto shapeFacesSpec)) shapeFacesUptoCard

/-- THE SECOND FORM's CARD OF 'mercatorlaw5.ShapeThins'. -/
def shapeThinsUptoCard : Claim7 := { stood := { row := shapeThinsUptoRow, standIns := [], harness := (true, "f9b4ef06f98e49c716c370e62a25b1b65642757566be9262fa7f9f1e0d6c2e91"), looks := true }, kinds := [], alts := [], laidByText := true, laidKinds := [.handle, .sentinel, .sentinel, .sentinel, .sentinel, .sentinel, .sentinel, .sentinel, .sentinel], laidTests := true, laidLooks := .later }
def ShapeThinsUptoCardSaid : Prop := Claim7.holds Tryd.pinned (.plain (OpenSpec.upto shapeThinsSpec)) shapeThinsUptoCard

/-- THE SECOND FORM's CARD OF 'mercatorlaw5.ShapeKeeps'. -/
def shapeKeepsUptoCard : Claim7 := { stood := { row := shapeKeepsUptoRow, standIns := [], harness := (true, "f9b4ef06f98e49c716c370e62a25b1b65642757566be9262fa7f9f1e0d6c2e91"), looks := true }, kinds := [], alts := [], laidByText := true, laidKinds := [.sentinel, .sentinel, .sentinel], laidTests := true, laidLooks := .later }
def ShapeKeepsUptoCardSaid : Prop := Claim7.holds Tryd.pinned (.plain (OpenSpec.upto shapeKeepsSpec)) shapeKeepsUptoCard
end Rows
end Go.Proofs.YtnadgoomkaldkaaDoor
