/-
  DERIVED. GIVEN WITH THE SEED: THE CARDS: each row of YtmiamfnnccjmeacDoorRows.lean that lists a variable, with what it lists TIED to the program's text (the seventh form; the later family's looks); each row that meets fmt, with fmt's text TOLD by the authors' own Lean function (tested against real Go, not proved from fmt's source: count such statements apart). THE CARD IS WHAT COUNTS. Prove the row's statement (the work); the ties are given (YtmiamfnnccjmeacDoorTie.lean); close each card by the builder's one call (the guide's Derived/Test/ToyasCard.lean, 'card_holds'). Laid BY PROGRAM, IN A SANDBOX (cutbox-door.mjs). By AI agents, Wed Nov 11 2026. No macro, syntax, notation, axiom, sorry.
-/
import Derived.Test.YtmiamfnnccjmeacDoorRows
import GoSem.ClaimSeven
namespace Go.Proofs.YtmiamfnnccjmeacDoor
namespace Rows

/-- THE TIED CARD OF 'mercatorlaw2.GlobeDatums'. -/
def globeDatumsCard : Claim7 := { stood := { row := globeDatumsRow, standIns := [], harness := (true, "adf119fe8c94e2518fc46ffb75a1d8db2e01f5a82460806b68abdc0dd1272bb2"), looks := true }, kinds := [], alts := [], laidByText := true, laidKinds := [.handle, .sentinel, .sentinel, .sentinel, .sentinel, .sentinel, .sentinel, .sentinel, .sentinel], laidTests := true, laidLooks := .later }
def GlobeDatumsCardSaid : Prop := Claim7.holds Tryd.pinned (.plain (OpenSpec.ofChange globeDatumsSpec)) globeDatumsCard

/-- THE TIED CARD OF 'mercatorlaw2.PathBetween'. -/
def pathBetweenCard : Claim7 := { stood := { row := pathBetweenRow, standIns := [], harness := (true, "adf119fe8c94e2518fc46ffb75a1d8db2e01f5a82460806b68abdc0dd1272bb2"), looks := true }, kinds := [], alts := [], laidByText := true, laidKinds := [.handle, .sentinel, .sentinel, .sentinel, .sentinel, .sentinel, .sentinel, .sentinel, .sentinel], laidTests := true, laidLooks := .later }
def PathBetweenCardSaid : Prop := Claim7.holds Tryd.pinned (.plain (OpenSpec.ofChange pathBetweenSpec)) pathBetweenCard

/-- THE TIED CARD OF 'mercatorlaw2.PathBack'. -/
def pathBackCard : Claim7 := { stood := { row := pathBackRow, standIns := [], harness := (true, "adf119fe8c94e2518fc46ffb75a1d8db2e01f5a82460806b68abdc0dd1272bb2"), looks := true }, kinds := [], alts := [], laidByText := true, laidKinds := [.sentinel, .sentinel, .sentinel], laidTests := true, laidLooks := .later }
def PathBackCardSaid : Prop := Claim7.holds Tryd.pinned (.plain (OpenSpec.ofChange pathBackSpec)) pathBackCard

/-- THE SECOND FORM's CARD OF 'mercatorlaw2.GlobeDatums'. -/
def globeDatumsUptoCard : Claim7 := { stood := { row := globeDatumsUptoRow, standIns := [], harness := (true, "adf119fe8c94e2518fc46ffb75a1d8db2e01f5a82460806b68abdc0dd1272bb2"), looks := true }, kinds := [], alts := [], laidByText := true, laidKinds := [.handle, .sentinel, .sentinel, .sentinel, .sentinel, .sentinel, .sentinel, .sentinel, .sentinel], laidTests := true, laidLooks := .later }
def GlobeDatumsUptoCardSaid : Prop := Claim7.holds Tryd.pinned (.plain (OpenSpec.upto globeDatumsSpec)) globeDatumsUptoCard

/-- THE SECOND FORM's CARD OF 'mercatorlaw2.PathBetween'. -/
def pathBetweenUptoCard : Claim7 := { stood := { row := pathBetweenUptoRow, standIns := [], harness := (true, "adf119fe8c94e2518fc46ffb75a1d8db2e01f5a82460806b68abdc0dd1272bb2"), looks := true }, kinds := [], alts := [], laidByText := true, laidKinds := [.handle, .sentinel, .sentinel, .sentinel, .sentinel, .sentinel, .sentinel, .sentinel, .sentinel], laidTests := true, laidLooks := .later }
def PathBetweenUptoCardSaid : Prop := Claim7.holds Tryd.pinned (.plain (OpenSpec.upto pathBetweenSpec)) pathBetweenUptoCard

/-- THE SECOND FORM's CARD OF 'mercatorlaw2.PathBack'. -/
def pathBackUptoCard : Claim7 := { stood := { row := pathBackUptoRow, standIns := [], harness := (true, "adf119fe8c94e2518fc46ffb75a1d8db2e01f5a82460806b68abdc0dd1272bb2"), looks := true }, kinds := [], alts := [], laidByText := true, laidKinds := [.sentinel, .sentinel, .sentinel], laidTests := true, laidLooks := .later }
def PathBackUptoCardSaid : Prop := Claim7.holds Tryd.pinned (.plain (OpenSpec.upto pathBackSpec)) pathBackUptoCard
end Rows
end Go.Proofs.YtmiamfnnccjmeacDoor
