/-
  DERIVED. GIVEN WITH THE SEED: THE CARDS: each row of YtgohlemlmbjpoacGreatDoorRows.lean that lists a variable, with what it lists TIED to the program's text (the seventh form; the later family's looks); each row that meets fmt, with fmt's text TOLD by the authors' own Lean function (tested against real Go, not proved from fmt's source: count such statements apart). THE CARD IS WHAT COUNTS. Prove the row's statement (the work); the ties are given (YtgohlemlmbjpoacGreatDoorTie.lean); close each card by the builder's one call (the guide's Derived/Test/ToyasCard.lean, 'card_holds'). Laid BY PROGRAM, IN A SANDBOX (cutbox-door.mjs). By AI agents, Wed Nov 11 2026. No macro, syntax, notation, axiom, sorry.
-/
import Derived.Test.YtgohlemlmbjpoacGreatDoorRows
import GoSem.ClaimSeven
namespace Go.Proofs.YtgohlemlmbjpoacGreatDoor
namespace Rows

/-- THE TIED CARD OF 'mercatorlaw2.PathReach'. -/
def pathReachCard : Claim7 := { stood := { row := pathReachRow, standIns := [], harness := (true, "43694ee0dc0a641929738aed542fe55f440901de8f0c72240589be27bd80ddbe"), looks := true }, kinds := [], alts := [], laidByText := true, laidKinds := [.handle, .sentinel, .sentinel, .sentinel, .sentinel, .sentinel, .sentinel, .sentinel, .sentinel], laidTests := true, laidLooks := .later }
def PathReachCardSaid : Prop := Claim7.holds Tryz.pinned (.plain (OpenSpec.ofChange pathReachSpec)) pathReachCard

/-- THE TIED CARD OF 'mercatorlaw2.FlatTo'. -/
def flatToCard : Claim7 := { stood := { row := flatToRow, standIns := [], harness := (true, "43694ee0dc0a641929738aed542fe55f440901de8f0c72240589be27bd80ddbe"), looks := true }, kinds := [], alts := [], laidByText := true, laidKinds := [.handle, .sentinel, .sentinel, .sentinel, .sentinel, .sentinel, .sentinel, .sentinel, .sentinel], laidTests := true, laidLooks := .later }
def FlatToCardSaid : Prop := Claim7.holds Tryz.pinned (.plain (OpenSpec.ofChange flatToSpec)) flatToCard

/-- THE SECOND FORM's CARD OF 'mercatorlaw2.PathReach'. -/
def pathReachUptoCard : Claim7 := { stood := { row := pathReachUptoRow, standIns := [], harness := (true, "43694ee0dc0a641929738aed542fe55f440901de8f0c72240589be27bd80ddbe"), looks := true }, kinds := [], alts := [], laidByText := true, laidKinds := [.handle, .sentinel, .sentinel, .sentinel, .sentinel, .sentinel, .sentinel, .sentinel, .sentinel], laidTests := true, laidLooks := .later }
def PathReachUptoCardSaid : Prop := Claim7.holds Tryz.pinned (.plain (OpenSpec.upto pathReachSpec)) pathReachUptoCard

/-- THE SECOND FORM's CARD OF 'mercatorlaw2.FlatTo'. -/
def flatToUptoCard : Claim7 := { stood := { row := flatToUptoRow, standIns := [], harness := (true, "43694ee0dc0a641929738aed542fe55f440901de8f0c72240589be27bd80ddbe"), looks := true }, kinds := [], alts := [], laidByText := true, laidKinds := [.handle, .sentinel, .sentinel, .sentinel, .sentinel, .sentinel, .sentinel, .sentinel, .sentinel], laidTests := true, laidLooks := .later }
def FlatToUptoCardSaid : Prop := Claim7.holds Tryz.pinned (.plain (OpenSpec.upto flatToSpec)) flatToUptoCard
end Rows
end Go.Proofs.YtgohlemlmbjpoacGreatDoor
