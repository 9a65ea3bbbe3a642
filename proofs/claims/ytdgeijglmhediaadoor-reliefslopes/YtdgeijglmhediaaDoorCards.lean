/-
  DERIVED. GIVEN WITH THE SEED: THE CARDS: each row of YtdgeijglmhediaaDoorRows.lean that lists a variable, with what it lists TIED to the program's text (the seventh form; the later family's looks); each row that meets fmt, with fmt's text TOLD by the authors' own Lean function (tested against real Go, not proved from fmt's source: count such statements apart). THE CARD IS WHAT COUNTS. Prove the row's statement (the work); the ties are given (YtdgeijglmhediaaDoorTie.lean); close each card by the builder's one call (the guide's Derived/Test/ToyasCard.lean, 'card_holds'). Laid BY PROGRAM, IN A SANDBOX (cutbox-door.mjs). By AI agents, Wed Nov 11 2026. No macro, syntax, notation, axiom, sorry.
-/
import Derived.Test.YtdgeijglmhediaaDoorRows
import GoSem.ClaimSeven
namespace Go.Proofs.YtdgeijglmhediaaDoor
namespace Rows

/-- THE TIED CARD OF 'mercatorlaw3.FieldAround'. -/
def fieldAroundCard : Claim7 := { stood := { row := fieldAroundRow, standIns := [], harness := (true, "01ab7174e81c0cb8c797534b639241055857320948b8b4beffd43ee445a66c27"), looks := true }, kinds := [], alts := [], laidByText := true, laidKinds := [.handle, .sentinel, .sentinel, .sentinel, .sentinel, .sentinel, .sentinel, .sentinel, .sentinel], laidTests := true, laidLooks := .later }
def FieldAroundCardSaid : Prop := Claim7.holds Tryd.pinned (.plain (OpenSpec.ofChange fieldAroundSpec)) fieldAroundCard

/-- THE TIED CARD OF 'mercatorlaw3.FieldOpens'. -/
def fieldOpensCard : Claim7 := { stood := { row := fieldOpensRow, standIns := [], harness := (true, "01ab7174e81c0cb8c797534b639241055857320948b8b4beffd43ee445a66c27"), looks := true }, kinds := [], alts := [], laidByText := true, laidKinds := [.sentinel, .sentinel, .sentinel], laidTests := true, laidLooks := .later }
def FieldOpensCardSaid : Prop := Claim7.holds Tryd.pinned (.plain (OpenSpec.ofChange fieldOpensSpec)) fieldOpensCard

/-- THE TIED CARD OF 'mercatorlaw3.FieldScales'. -/
def fieldScalesCard : Claim7 := { stood := { row := fieldScalesRow, standIns := [], harness := (true, "01ab7174e81c0cb8c797534b639241055857320948b8b4beffd43ee445a66c27"), looks := true }, kinds := [], alts := [], laidByText := true, laidKinds := [.handle, .sentinel, .sentinel, .sentinel, .sentinel, .sentinel, .sentinel, .sentinel, .sentinel], laidTests := true, laidLooks := .later }
def FieldScalesCardSaid : Prop := Claim7.holds Tryd.pinned (.plain (OpenSpec.ofChange fieldScalesSpec)) fieldScalesCard

/-- THE TIED CARD OF 'mercatorlaw3.ReliefGrounds'. -/
def reliefGroundsCard : Claim7 := { stood := { row := reliefGroundsRow, standIns := [], harness := (true, "01ab7174e81c0cb8c797534b639241055857320948b8b4beffd43ee445a66c27"), looks := true }, kinds := [], alts := [], laidByText := true, laidKinds := [.handle, .sentinel, .sentinel, .sentinel, .sentinel, .sentinel, .sentinel, .sentinel, .sentinel], laidTests := true, laidLooks := .later }
def ReliefGroundsCardSaid : Prop := Claim7.holds Tryd.pinned (.plain (OpenSpec.ofChange reliefGroundsSpec)) reliefGroundsCard

/-- THE TIED CARD OF 'mercatorlaw3.ReliefSlopes'. -/
def reliefSlopesCard : Claim7 := { stood := { row := reliefSlopesRow, standIns := [], harness := (true, "01ab7174e81c0cb8c797534b639241055857320948b8b4beffd43ee445a66c27"), looks := true }, kinds := [], alts := [], laidByText := true, laidKinds := [.handle, .sentinel, .sentinel, .sentinel, .sentinel, .sentinel, .sentinel, .sentinel, .sentinel], laidTests := true, laidLooks := .later }
def ReliefSlopesCardSaid : Prop := Claim7.holds Tryd.pinned (.plain (OpenSpec.ofChange reliefSlopesSpec)) reliefSlopesCard

/-- THE TIED CARD OF 'mercatorlaw3.ReliefTops'. -/
def reliefTopsCard : Claim7 := { stood := { row := reliefTopsRow, standIns := [], harness := (true, "01ab7174e81c0cb8c797534b639241055857320948b8b4beffd43ee445a66c27"), looks := true }, kinds := [], alts := [], laidByText := true, laidKinds := [.handle, .sentinel, .sentinel, .sentinel, .sentinel, .sentinel, .sentinel, .sentinel, .sentinel], laidTests := true, laidLooks := .later }
def ReliefTopsCardSaid : Prop := Claim7.holds Tryd.pinned (.plain (OpenSpec.ofChange reliefTopsSpec)) reliefTopsCard

/-- THE SECOND FORM's CARD OF 'mercatorlaw3.FieldAround'. -/
def fieldAroundUptoCard : Claim7 := { stood := { row := fieldAroundUptoRow, standIns := [], harness := (true, "01ab7174e81c0cb8c797534b639241055857320948b8b4beffd43ee445a66c27"), looks := true }, kinds := [], alts := [], laidByText := true, laidKinds := [.handle, .sentinel, .sentinel, .sentinel, .sentinel, .sentinel, .sentinel, .sentinel, .sentinel], laidTests := true, laidLooks := .later }
def FieldAroundUptoCardSaid : Prop := Claim7.holds Tryd.pinned (.plain (OpenSpec.upto fieldAroundSpec)) fieldAroundUptoCard

/-- THE SECOND FORM's CARD OF 'mercatorlaw3.FieldOpens'. -/
def fieldOpensUptoCard : Claim7 := { stood := { row := fieldOpensUptoRow, standIns := [], harness := (true, "01ab7174e81c0cb8c797534b639241055857320948b8b4beffd43ee445a66c27"), looks := true }, kinds := [], alts := [], laidByText := true, laidKinds := [.sentinel, .sentinel, .sentinel], laidTests := true, laidLooks := .later }
def FieldOpensUptoCardSaid : Prop := Claim7.holds Tryd.pinned (.plain (OpenSpec.upto fieldOpensSpec)) fieldOpensUptoCard

/-- THE SECOND FORM's CARD OF 'mercatorlaw3.FieldScales'. -/
def fieldScalesUptoCard : Claim7 := { stood := { row := fieldScalesUptoRow, standIns := [], harness := (true, "01ab7174e81c0cb8c797534b639241055857320948b8b4beffd43ee445a66c27"), looks := true }, kinds := [], alts := [], laidByText := true, laidKinds := [.handle, .sentinel, .sentinel, .sentinel, .sentinel, .sentinel, .sentinel, .sentinel, .sentinel], laidTests := true, laidLooks := .later }
def FieldScalesUptoCardSaid : Prop := Claim7.holds Tryd.pinned (.plain (OpenSpec.upto fieldScalesSpec)) fieldScalesUptoCard

/-- THE SECOND FORM's CARD OF 'mercatorlaw3.ReliefGrounds'. -/
def reliefGroundsUptoCard : Claim7 := { stood := { row := reliefGroundsUptoRow, standIns := [], harness := (true, "01ab7174e81c0cb8c797534b639241055857320948b8b4beffd43ee445a66c27"), looks := true }, kinds := [], alts := [], laidByText := true, laidKinds := [.handle, .sentinel, .sentinel, .sentinel, .sentinel, .sentinel, .sentinel, .sentinel, .sentinel], laidTests := true, laidLooks := .later }
def ReliefGroundsUptoCardSaid : Prop := Claim7.holds Tryd.pinned (.plain (OpenSpec.upto reliefGroundsSpec)) reliefGroundsUptoCard

/-- THE SECOND FORM's CARD OF 'mercatorlaw3.ReliefSlopes'. -/
def reliefSlopesUptoCard : Claim7 := { stood := { row := reliefSlopesUptoRow, standIns := [], harness := (true, "01ab7174e81c0cb8c797534b639241055857320948b8b4beffd43ee445a66c27"), looks := true }, kinds := [], alts := [], laidByText := true, laidKinds := [.handle, .sentinel, .sentinel, .sentinel, .sentinel, .sentinel, .sentinel, .sentinel, .sentinel], laidTests := true, laidLooks := .later }
def ReliefSlopesUptoCardSaid : Prop := Claim7.holds Tryd.pinned (.plain (OpenSpec.upto reliefSlopesSpec)) reliefSlopesUptoCard

/-- THE SECOND FORM's CARD OF 'mercatorlaw3.ReliefTops'. -/
def reliefTopsUptoCard : Claim7 := { stood := { row := reliefTopsUptoRow, standIns := [], harness := (true, "01ab7174e81c0cb8c797534b639241055857320948b8b4beffd43ee445a66c27"), looks := true }, kinds := [], alts := [], laidByText := true, laidKinds := [.handle, .sentinel, .sentinel, .sentinel, .sentinel, .sentinel, .sentinel, .sentinel, .sentinel], laidTests := true, laidLooks := .later }
def ReliefTopsUptoCardSaid : Prop := Claim7.holds Tryd.pinned (.plain (OpenSpec.upto reliefTopsSpec)) reliefTopsUptoCard
end Rows
end Go.Proofs.YtdgeijglmhediaaDoor
