/-
  DERIVED. GIVEN WITH THE SEED: THE CARDS: each row of YthbobceghbknoaaDoorRows.lean that lists a variable, with what it lists TIED to the program's text (the seventh form; the later family's looks); each row that meets fmt, with fmt's text TOLD by the authors' own Lean function (tested against real Go, not proved from fmt's source: count such statements apart). THE CARD IS WHAT COUNTS. Prove the row's statement (the work); the ties are given (YthbobceghbknoaaDoorTie.lean); close each card by the builder's one call (the guide's Derived/Test/ToyasCard.lean, 'card_holds'). Laid BY PROGRAM, IN A SANDBOX (cutbox-door.mjs). By AI agents, Wed Nov 11 2026. No macro, syntax, notation, axiom, sorry.
-/
import Derived.Test.YthbobceghbknoaaDoorRows
import GoSem.ClaimSeven
namespace Go.Proofs.YthbobceghbknoaaDoor
namespace Rows

/-- THE TIED CARD OF 'mercatorlaw3.ReliefSlopes'. -/
def reliefSlopesCard : Claim7 := { stood := { row := reliefSlopesRow, standIns := [], harness := (true, "f8bcebe69a1b8a5df98239ccd4c74dfade46ecd3b5b49d22b22d58545e7e38a8"), looks := true }, kinds := [], alts := [], laidByText := true, laidKinds := [.handle, .sentinel, .sentinel, .sentinel, .sentinel, .sentinel, .sentinel, .sentinel, .sentinel], laidTests := true, laidLooks := .later }
def ReliefSlopesCardSaid : Prop := Claim7.holds Tryd.pinned (.plain (OpenSpec.ofChange reliefSlopesSpec)) reliefSlopesCard

/-- THE TIED CARD OF 'mercatorlaw3.ReliefTops'. -/
def reliefTopsCard : Claim7 := { stood := { row := reliefTopsRow, standIns := [], harness := (true, "f8bcebe69a1b8a5df98239ccd4c74dfade46ecd3b5b49d22b22d58545e7e38a8"), looks := true }, kinds := [], alts := [], laidByText := true, laidKinds := [.handle, .sentinel, .sentinel, .sentinel, .sentinel, .sentinel, .sentinel, .sentinel, .sentinel], laidTests := true, laidLooks := .later }
def ReliefTopsCardSaid : Prop := Claim7.holds Tryd.pinned (.plain (OpenSpec.ofChange reliefTopsSpec)) reliefTopsCard

/-- THE SECOND FORM's CARD OF 'mercatorlaw3.ReliefSlopes'. -/
def reliefSlopesUptoCard : Claim7 := { stood := { row := reliefSlopesUptoRow, standIns := [], harness := (true, "f8bcebe69a1b8a5df98239ccd4c74dfade46ecd3b5b49d22b22d58545e7e38a8"), looks := true }, kinds := [], alts := [], laidByText := true, laidKinds := [.handle, .sentinel, .sentinel, .sentinel, .sentinel, .sentinel, .sentinel, .sentinel, .sentinel], laidTests := true, laidLooks := .later }
def ReliefSlopesUptoCardSaid : Prop := Claim7.holds Tryd.pinned (.plain (OpenSpec.upto reliefSlopesSpec)) reliefSlopesUptoCard

/-- THE SECOND FORM's CARD OF 'mercatorlaw3.ReliefTops'. -/
def reliefTopsUptoCard : Claim7 := { stood := { row := reliefTopsUptoRow, standIns := [], harness := (true, "f8bcebe69a1b8a5df98239ccd4c74dfade46ecd3b5b49d22b22d58545e7e38a8"), looks := true }, kinds := [], alts := [], laidByText := true, laidKinds := [.handle, .sentinel, .sentinel, .sentinel, .sentinel, .sentinel, .sentinel, .sentinel, .sentinel], laidTests := true, laidLooks := .later }
def ReliefTopsUptoCardSaid : Prop := Claim7.holds Tryd.pinned (.plain (OpenSpec.upto reliefTopsSpec)) reliefTopsUptoCard
end Rows
end Go.Proofs.YthbobceghbknoaaDoor
