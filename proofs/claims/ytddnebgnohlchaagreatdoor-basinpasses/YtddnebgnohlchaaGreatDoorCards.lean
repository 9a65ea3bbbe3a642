/-
  DERIVED. GIVEN WITH THE SEED: THE CARDS: each row of YtddnebgnohlchaaGreatDoorRows.lean that lists a variable, with what it lists TIED to the program's text (the seventh form; the later family's looks); each row that meets fmt, with fmt's text TOLD by the authors' own Lean function (tested against real Go, not proved from fmt's source: count such statements apart). THE CARD IS WHAT COUNTS. Prove the row's statement (the work); the ties are given (YtddnebgnohlchaaGreatDoorTie.lean); close each card by the builder's one call (the guide's Derived/Test/ToyasCard.lean, 'card_holds'). Laid BY PROGRAM, IN A SANDBOX (cutbox-door.mjs). By AI agents, Wed Nov 11 2026. No macro, syntax, notation, axiom, sorry.
-/
import Derived.Test.YtddnebgnohlchaaGreatDoorRows
import GoSem.ClaimSeven
namespace Go.Proofs.YtddnebgnohlchaaGreatDoor
namespace Rows

/-- THE TIED CARD OF 'mercatorlaw4.BasinPasses'. -/
def basinPassesCard : Claim7 := { stood := { row := basinPassesRow, standIns := [], harness := (true, "008fe4c8f5d08bd701d38cdb1d723370d7bae967f2f01413809152235ce1e4f6"), looks := true }, kinds := [], alts := [], laidByText := true, laidKinds := [.handle, .sentinel, .sentinel, .sentinel, .sentinel, .sentinel, .sentinel, .sentinel, .sentinel], laidTests := true, laidLooks := .later }
def BasinPassesCardSaid : Prop := Claim7.holds Tryz.pinned (.plain (OpenSpec.ofChange basinPassesSpec)) basinPassesCard

/-- THE TIED CARD OF 'mercatorlaw4.BasinRises'. -/
def basinRisesCard : Claim7 := { stood := { row := basinRisesRow, standIns := [], harness := (true, "008fe4c8f5d08bd701d38cdb1d723370d7bae967f2f01413809152235ce1e4f6"), looks := true }, kinds := [], alts := [], laidByText := true, laidKinds := [.handle, .sentinel, .sentinel, .sentinel, .sentinel, .sentinel, .sentinel, .sentinel, .sentinel], laidTests := true, laidLooks := .later }
def BasinRisesCardSaid : Prop := Claim7.holds Tryz.pinned (.plain (OpenSpec.ofChange basinRisesSpec)) basinRisesCard

/-- THE SECOND FORM's CARD OF 'mercatorlaw4.BasinPasses'. -/
def basinPassesUptoCard : Claim7 := { stood := { row := basinPassesUptoRow, standIns := [], harness := (true, "008fe4c8f5d08bd701d38cdb1d723370d7bae967f2f01413809152235ce1e4f6"), looks := true }, kinds := [], alts := [], laidByText := true, laidKinds := [.handle, .sentinel, .sentinel, .sentinel, .sentinel, .sentinel, .sentinel, .sentinel, .sentinel], laidTests := true, laidLooks := .later }
def BasinPassesUptoCardSaid : Prop := Claim7.holds Tryz.pinned (.plain (OpenSpec.upto basinPassesSpec)) basinPassesUptoCard

/-- THE SECOND FORM's CARD OF 'mercatorlaw4.BasinRises'. -/
def basinRisesUptoCard : Claim7 := { stood := { row := basinRisesUptoRow, standIns := [], harness := (true, "008fe4c8f5d08bd701d38cdb1d723370d7bae967f2f01413809152235ce1e4f6"), looks := true }, kinds := [], alts := [], laidByText := true, laidKinds := [.handle, .sentinel, .sentinel, .sentinel, .sentinel, .sentinel, .sentinel, .sentinel, .sentinel], laidTests := true, laidLooks := .later }
def BasinRisesUptoCardSaid : Prop := Claim7.holds Tryz.pinned (.plain (OpenSpec.upto basinRisesSpec)) basinRisesUptoCard
end Rows
end Go.Proofs.YtddnebgnohlchaaGreatDoor
