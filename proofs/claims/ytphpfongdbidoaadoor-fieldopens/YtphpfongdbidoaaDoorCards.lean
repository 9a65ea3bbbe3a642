/-
  DERIVED. GIVEN WITH THE SEED: THE CARDS: each row of YtphpfongdbidoaaDoorRows.lean that lists a variable, with what it lists TIED to the program's text (the seventh form; the later family's looks); each row that meets fmt, with fmt's text TOLD by the authors' own Lean function (tested against real Go, not proved from fmt's source: count such statements apart). THE CARD IS WHAT COUNTS. Prove the row's statement (the work); the ties are given (YtphpfongdbidoaaDoorTie.lean); close each card by the builder's one call (the guide's Derived/Test/ToyasCard.lean, 'card_holds'). Laid BY PROGRAM, IN A SANDBOX (cutbox-door.mjs). By AI agents, Wed Nov 11 2026. No macro, syntax, notation, axiom, sorry.
-/
import Derived.Test.YtphpfongdbidoaaDoorRows
import GoSem.ClaimSeven
namespace Go.Proofs.YtphpfongdbidoaaDoor
namespace Rows

/-- THE TIED CARD OF 'mercatorlaw3.FieldAround'. -/
def fieldAroundCard : Claim7 := { stood := { row := fieldAroundRow, standIns := [], harness := (true, "89ce985d4d29d84770e33df34672707e8534cfbbf9f81c6f7a4a04228d9e8502"), looks := true }, kinds := [], alts := [], laidByText := true, laidKinds := [.handle, .sentinel, .sentinel, .sentinel, .sentinel, .sentinel, .sentinel, .sentinel, .sentinel], laidTests := true, laidLooks := .later }
def FieldAroundCardSaid : Prop := Claim7.holds Tryd.pinned (.plain (OpenSpec.ofChange fieldAroundSpec)) fieldAroundCard

/-- THE TIED CARD OF 'mercatorlaw3.FieldOpens'. -/
def fieldOpensCard : Claim7 := { stood := { row := fieldOpensRow, standIns := [], harness := (true, "89ce985d4d29d84770e33df34672707e8534cfbbf9f81c6f7a4a04228d9e8502"), looks := true }, kinds := [], alts := [], laidByText := true, laidKinds := [.sentinel, .sentinel, .sentinel], laidTests := true, laidLooks := .later }
def FieldOpensCardSaid : Prop := Claim7.holds Tryd.pinned (.plain (OpenSpec.ofChange fieldOpensSpec)) fieldOpensCard

/-- THE TIED CARD OF 'mercatorlaw3.FieldScales'. -/
def fieldScalesCard : Claim7 := { stood := { row := fieldScalesRow, standIns := [], harness := (true, "89ce985d4d29d84770e33df34672707e8534cfbbf9f81c6f7a4a04228d9e8502"), looks := true }, kinds := [], alts := [], laidByText := true, laidKinds := [.handle, .sentinel, .sentinel, .sentinel, .sentinel, .sentinel, .sentinel, .sentinel, .sentinel], laidTests := true, laidLooks := .later }
def FieldScalesCardSaid : Prop := Claim7.holds Tryd.pinned (.plain (OpenSpec.ofChange fieldScalesSpec)) fieldScalesCard

/-- THE SECOND FORM's CARD OF 'mercatorlaw3.FieldAround'. -/
def fieldAroundUptoCard : Claim7 := { stood := { row := fieldAroundUptoRow, standIns := [], harness := (true, "89ce985d4d29d84770e33df34672707e8534cfbbf9f81c6f7a4a04228d9e8502"), looks := true }, kinds := [], alts := [], laidByText := true, laidKinds := [.handle, .sentinel, .sentinel, .sentinel, .sentinel, .sentinel, .sentinel, .sentinel, .sentinel], laidTests := true, laidLooks := .later }
def FieldAroundUptoCardSaid : Prop := Claim7.holds Tryd.pinned (.plain (OpenSpec.upto fieldAroundSpec)) fieldAroundUptoCard

/-- THE SECOND FORM's CARD OF 'mercatorlaw3.FieldOpens'. -/
def fieldOpensUptoCard : Claim7 := { stood := { row := fieldOpensUptoRow, standIns := [], harness := (true, "89ce985d4d29d84770e33df34672707e8534cfbbf9f81c6f7a4a04228d9e8502"), looks := true }, kinds := [], alts := [], laidByText := true, laidKinds := [.sentinel, .sentinel, .sentinel], laidTests := true, laidLooks := .later }
def FieldOpensUptoCardSaid : Prop := Claim7.holds Tryd.pinned (.plain (OpenSpec.upto fieldOpensSpec)) fieldOpensUptoCard

/-- THE SECOND FORM's CARD OF 'mercatorlaw3.FieldScales'. -/
def fieldScalesUptoCard : Claim7 := { stood := { row := fieldScalesUptoRow, standIns := [], harness := (true, "89ce985d4d29d84770e33df34672707e8534cfbbf9f81c6f7a4a04228d9e8502"), looks := true }, kinds := [], alts := [], laidByText := true, laidKinds := [.handle, .sentinel, .sentinel, .sentinel, .sentinel, .sentinel, .sentinel, .sentinel, .sentinel], laidTests := true, laidLooks := .later }
def FieldScalesUptoCardSaid : Prop := Claim7.holds Tryd.pinned (.plain (OpenSpec.upto fieldScalesSpec)) fieldScalesUptoCard
end Rows
end Go.Proofs.YtphpfongdbidoaaDoor
