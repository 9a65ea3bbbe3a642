/-
  DERIVED. GIVEN WITH THE SEED: THE CARDS: each row of YtpdiefmmenfpaaaDoorRows.lean that lists a variable, with what it lists TIED to the program's text (the seventh form; the later family's looks); each row that meets fmt, with fmt's text TOLD by the authors' own Lean function (tested against real Go, not proved from fmt's source: count such statements apart). THE CARD IS WHAT COUNTS. Prove the row's statement (the work); the ties are given (YtpdiefmmenfpaaaDoorTie.lean); close each card by the builder's one call (the guide's Derived/Test/ToyasCard.lean, 'card_holds'). Laid BY PROGRAM, IN A SANDBOX (cutbox-door.mjs). By AI agents, Wed Nov 11 2026. No macro, syntax, notation, axiom, sorry.
-/
import Derived.Test.YtpdiefmmenfpaaaDoorRows
import GoSem.ClaimSeven
namespace Go.Proofs.YtpdiefmmenfpaaaDoor
namespace Rows

/-- THE TIED CARD OF 'mercatorlaw3.ReliefGrounds'. -/
def reliefGroundsCard : Claim7 := { stood := { row := reliefGroundsRow, standIns := [], harness := (true, "60b82fcb011b42678b41c98c592d09a61c0eed8bccb1dfa264a2d903780a10a3"), looks := true }, kinds := [], alts := [], laidByText := true, laidKinds := [.handle, .sentinel, .sentinel, .sentinel, .sentinel, .sentinel, .sentinel, .sentinel, .sentinel], laidTests := true, laidLooks := .later }
def ReliefGroundsCardSaid : Prop := Claim7.holds Tryd.pinned (.plain (OpenSpec.ofChange reliefGroundsSpec)) reliefGroundsCard

/-- THE TIED CARD OF 'mercatorlaw4.SightSees'. -/
def sightSeesCard : Claim7 := { stood := { row := sightSeesRow, standIns := [], harness := (true, "60b82fcb011b42678b41c98c592d09a61c0eed8bccb1dfa264a2d903780a10a3"), looks := true }, kinds := [], alts := [], laidByText := true, laidKinds := [.handle, .sentinel, .sentinel, .sentinel, .sentinel, .sentinel, .sentinel, .sentinel, .sentinel], laidTests := true, laidLooks := .later }
def SightSeesCardSaid : Prop := Claim7.holds Tryd.pinned (.plain (OpenSpec.ofChange sightSeesSpec)) sightSeesCard

/-- THE TIED CARD OF 'mercatorlaw4.SightNeeds'. -/
def sightNeedsCard : Claim7 := { stood := { row := sightNeedsRow, standIns := [], harness := (true, "60b82fcb011b42678b41c98c592d09a61c0eed8bccb1dfa264a2d903780a10a3"), looks := true }, kinds := [], alts := [], laidByText := true, laidKinds := [.handle, .sentinel, .sentinel, .sentinel, .sentinel, .sentinel, .sentinel, .sentinel, .sentinel], laidTests := true, laidLooks := .later }
def SightNeedsCardSaid : Prop := Claim7.holds Tryd.pinned (.plain (OpenSpec.ofChange sightNeedsSpec)) sightNeedsCard

/-- THE TIED CARD OF 'mercatorlaw4.SightMutual'. -/
def sightMutualCard : Claim7 := { stood := { row := sightMutualRow, standIns := [], harness := (true, "60b82fcb011b42678b41c98c592d09a61c0eed8bccb1dfa264a2d903780a10a3"), looks := true }, kinds := [], alts := [], laidByText := true, laidKinds := [.sentinel, .sentinel, .sentinel], laidTests := true, laidLooks := .later }
def SightMutualCardSaid : Prop := Claim7.holds Tryd.pinned (.plain (OpenSpec.ofChange sightMutualSpec)) sightMutualCard

/-- THE SECOND FORM's CARD OF 'mercatorlaw3.ReliefGrounds'. -/
def reliefGroundsUptoCard : Claim7 := { stood := { row := reliefGroundsUptoRow, standIns := [], harness := (true, "60b82fcb011b42678b41c98c592d09a61c0eed8bccb1dfa264a2d903780a10a3"), looks := true }, kinds := [], alts := [], laidByText := true, laidKinds := [.handle, .sentinel, .sentinel, .sentinel, .sentinel, .sentinel, .sentinel, .sentinel, .sentinel], laidTests := true, laidLooks := .later }
def ReliefGroundsUptoCardSaid : Prop := Claim7.holds Tryd.pinned (.plain (OpenSpec.upto reliefGroundsSpec)) reliefGroundsUptoCard

/-- THE SECOND FORM's CARD OF 'mercatorlaw4.SightSees'. -/
def sightSeesUptoCard : Claim7 := { stood := { row := sightSeesUptoRow, standIns := [], harness := (true, "60b82fcb011b42678b41c98c592d09a61c0eed8bccb1dfa264a2d903780a10a3"), looks := true }, kinds := [], alts := [], laidByText := true, laidKinds := [.handle, .sentinel, .sentinel, .sentinel, .sentinel, .sentinel, .sentinel, .sentinel, .sentinel], laidTests := true, laidLooks := .later }
def SightSeesUptoCardSaid : Prop := Claim7.holds Tryd.pinned (.plain (OpenSpec.upto sightSeesSpec)) sightSeesUptoCard

/-- THE SECOND FORM's CARD OF 'mercatorlaw4.SightNeeds'. -/
def sightNeedsUptoCard : Claim7 := { stood := { row := sightNeedsUptoRow, standIns := [], harness := (true, "60b82fcb011b42678b41c98c592d09a61c0eed8bccb1dfa264a2d903780a10a3"), looks := true }, kinds := [], alts := [], laidByText := true, laidKinds := [.handle, .sentinel, .sentinel, .sentinel, .sentinel, .sentinel, .sentinel, .sentinel, .sentinel], laidTests := true, laidLooks := .later }
def SightNeedsUptoCardSaid : Prop := Claim7.holds Tryd.pinned (.plain (OpenSpec.upto sightNeedsSpec)) sightNeedsUptoCard

/-- THE SECOND FORM's CARD OF 'mercatorlaw4.SightMutual'. -/
def sightMutualUptoCard : Claim7 := { stood := { row := sightMutualUptoRow, standIns := [], harness := (true, "60b82fcb011b42678b41c98c592d09a61c0eed8bccb1dfa264a2d903780a10a3"), looks := true }, kinds := [], alts := [], laidByText := true, laidKinds := [.sentinel, .sentinel, .sentinel], laidTests := true, laidLooks := .later }
def SightMutualUptoCardSaid : Prop := Claim7.holds Tryd.pinned (.plain (OpenSpec.upto sightMutualSpec)) sightMutualUptoCard
end Rows
end Go.Proofs.YtpdiefmmenfpaaaDoor
