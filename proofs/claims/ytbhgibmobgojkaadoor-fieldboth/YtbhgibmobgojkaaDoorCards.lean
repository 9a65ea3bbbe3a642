/-
  DERIVED. GIVEN WITH THE SEED: THE CARDS: each row of YtbhgibmobgojkaaDoorRows.lean that lists a variable, with what it lists TIED to the program's text (the seventh form; the later family's looks); each row that meets fmt, with fmt's text TOLD by the authors' own Lean function (tested against real Go, not proved from fmt's source: count such statements apart). THE CARD IS WHAT COUNTS. Prove the row's statement (the work); the ties are given (YtbhgibmobgojkaaDoorTie.lean); close each card by the builder's one call (the guide's Derived/Test/ToyasCard.lean, 'card_holds'). Laid BY PROGRAM, IN A SANDBOX (cutbox-door.mjs). By AI agents, Wed Nov 11 2026. No macro, syntax, notation, axiom, sorry.
-/
import Derived.Test.YtbhgibmobgojkaaDoorRows
import GoSem.ClaimSeven
namespace Go.Proofs.YtbhgibmobgojkaaDoor
namespace Rows

/-- THE TIED CARD OF 'mercatorlaw3.FieldBoth'. -/
def fieldBothCard : Claim7 := { stood := { row := fieldBothRow, standIns := [], harness := (true, "14ef90d9148e721477da882c8b1b107024b32d5ae96cd4290aa0a3910840e143"), looks := true }, kinds := [], alts := [], laidByText := true, laidKinds := [.handle, .sentinel, .sentinel, .sentinel, .sentinel, .sentinel, .sentinel, .sentinel, .sentinel], laidTests := true, laidLooks := .later }
def FieldBothCardSaid : Prop := Claim7.holds Tryd.pinned (.plain (OpenSpec.ofChange fieldBothSpec)) fieldBothCard

/-- THE TIED CARD OF 'mercatorlaw3.FieldAround'. -/
def fieldAroundCard : Claim7 := { stood := { row := fieldAroundRow, standIns := [], harness := (true, "14ef90d9148e721477da882c8b1b107024b32d5ae96cd4290aa0a3910840e143"), looks := true }, kinds := [], alts := [], laidByText := true, laidKinds := [.handle, .sentinel, .sentinel, .sentinel, .sentinel, .sentinel, .sentinel, .sentinel, .sentinel], laidTests := true, laidLooks := .later }
def FieldAroundCardSaid : Prop := Claim7.holds Tryd.pinned (.plain (OpenSpec.ofChange fieldAroundSpec)) fieldAroundCard

/-- THE TIED CARD OF 'mercatorlaw3.FieldOpens'. -/
def fieldOpensCard : Claim7 := { stood := { row := fieldOpensRow, standIns := [], harness := (true, "14ef90d9148e721477da882c8b1b107024b32d5ae96cd4290aa0a3910840e143"), looks := true }, kinds := [], alts := [], laidByText := true, laidKinds := [.sentinel, .sentinel, .sentinel], laidTests := true, laidLooks := .later }
def FieldOpensCardSaid : Prop := Claim7.holds Tryd.pinned (.plain (OpenSpec.ofChange fieldOpensSpec)) fieldOpensCard

/-- THE TIED CARD OF 'mercatorlaw3.FieldScales'. -/
def fieldScalesCard : Claim7 := { stood := { row := fieldScalesRow, standIns := [], harness := (true, "14ef90d9148e721477da882c8b1b107024b32d5ae96cd4290aa0a3910840e143"), looks := true }, kinds := [], alts := [], laidByText := true, laidKinds := [.handle, .sentinel, .sentinel, .sentinel, .sentinel, .sentinel, .sentinel, .sentinel, .sentinel], laidTests := true, laidLooks := .later }
def FieldScalesCardSaid : Prop := Claim7.holds Tryd.pinned (.plain (OpenSpec.ofChange fieldScalesSpec)) fieldScalesCard

/-- THE SECOND FORM's CARD OF 'mercatorlaw3.FieldBoth'. -/
def fieldBothUptoCard : Claim7 := { stood := { row := fieldBothUptoRow, standIns := [], harness := (true, "14ef90d9148e721477da882c8b1b107024b32d5ae96cd4290aa0a3910840e143"), looks := true }, kinds := [], alts := [], laidByText := true, laidKinds := [.handle, .sentinel, .sentinel, .sentinel, .sentinel, .sentinel, .sentinel, .sentinel, .sentinel], laidTests := true, laidLooks := .later }
def FieldBothUptoCardSaid : Prop := Claim7.holds Tryd.pinned (.plain (OpenSpec.upto fieldBothSpec)) fieldBothUptoCard

/-- THE SECOND FORM's CARD OF 'mercatorlaw3.FieldAround'. -/
def fieldAroundUptoCard : Claim7 := { stood := { row := fieldAroundUptoRow, standIns := [], harness := (true, "14ef90d9148e721477da882c8b1b107024b32d5ae96cd4290aa0a3910840e143"), looks := true }, kinds := [], alts := [], laidByText := true, laidKinds := [.handle, .sentinel, .sentinel, .sentinel, .sentinel, .sentinel, .sentinel, .sentinel, .sentinel], laidTests := true, laidLooks := .later }
def FieldAroundUptoCardSaid : Prop := Claim7.holds Tryd.pinned (.plain (OpenSpec.upto fieldAroundSpec)) fieldAroundUptoCard

/-- THE SECOND FORM's CARD OF 'mercatorlaw3.FieldOpens'. -/
def fieldOpensUptoCard : Claim7 := { stood := { row := fieldOpensUptoRow, standIns := [], harness := (true, "14ef90d9148e721477da882c8b1b107024b32d5ae96cd4290aa0a3910840e143"), looks := true }, kinds := [], alts := [], laidByText := true, laidKinds := [.sentinel, .sentinel, .sentinel], laidTests := true, laidLooks := .later }
def FieldOpensUptoCardSaid : Prop := Claim7.holds Tryd.pinned (.plain (OpenSpec.upto fieldOpensSpec)) fieldOpensUptoCard

/-- THE SECOND FORM's CARD OF 'mercatorlaw3.FieldScales'. -/
def fieldScalesUptoCard : Claim7 := { stood := { row := fieldScalesUptoRow, standIns := [], harness := (true, "14ef90d9148e721477da882c8b1b107024b32d5ae96cd4290aa0a3910840e143"), looks := true }, kinds := [], alts := [], laidByText := true, laidKinds := [.handle, .sentinel, .sentinel, .sentinel, .sentinel, .sentinel, .sentinel, .sentinel, .sentinel], laidTests := true, laidLooks := .later }
def FieldScalesUptoCardSaid : Prop := Claim7.holds Tryd.pinned (.plain (OpenSpec.upto fieldScalesSpec)) fieldScalesUptoCard
end Rows
end Go.Proofs.YtbhgibmobgojkaaDoor
