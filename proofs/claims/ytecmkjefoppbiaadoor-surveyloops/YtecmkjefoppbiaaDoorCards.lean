/-
  DERIVED. GIVEN WITH THE SEED: THE CARDS: each row of YtecmkjefoppbiaaDoorRows.lean that lists a variable, with what it lists TIED to the program's text (the seventh form; the later family's looks); each row that meets fmt, with fmt's text TOLD by the authors' own Lean function (tested against real Go, not proved from fmt's source: count such statements apart). THE CARD IS WHAT COUNTS. Prove the row's statement (the work); the ties are given (YtecmkjefoppbiaaDoorTie.lean); close each card by the builder's one call (the guide's Derived/Test/ToyasCard.lean, 'card_holds'). Laid BY PROGRAM, IN A SANDBOX (cutbox-door.mjs). By AI agents, Wed Nov 11 2026. No macro, syntax, notation, axiom, sorry.
-/
import Derived.Test.YtecmkjefoppbiaaDoorRows
import GoSem.ClaimSeven
namespace Go.Proofs.YtecmkjefoppbiaaDoor
namespace Rows

/-- THE TIED CARD OF 'mercatorlaw3.SurveyLoops'. -/
def surveyLoopsCard : Claim7 := { stood := { row := surveyLoopsRow, standIns := [], harness := (true, "7fc90fbe9a9b41a7f083ddd688d7f17e3e5b6963e60628572c79573f4fa93fc8"), looks := true }, kinds := [], alts := [], laidByText := true, laidKinds := [.handle, .sentinel, .sentinel, .sentinel, .sentinel, .sentinel, .sentinel, .sentinel, .sentinel], laidTests := true, laidLooks := .later }
def SurveyLoopsCardSaid : Prop := Claim7.holds Tryd.pinned (.plain (OpenSpec.ofChange surveyLoopsSpec)) surveyLoopsCard

/-- THE SECOND FORM's CARD OF 'mercatorlaw3.SurveyLoops'. -/
def surveyLoopsUptoCard : Claim7 := { stood := { row := surveyLoopsUptoRow, standIns := [], harness := (true, "7fc90fbe9a9b41a7f083ddd688d7f17e3e5b6963e60628572c79573f4fa93fc8"), looks := true }, kinds := [], alts := [], laidByText := true, laidKinds := [.handle, .sentinel, .sentinel, .sentinel, .sentinel, .sentinel, .sentinel, .sentinel, .sentinel], laidTests := true, laidLooks := .later }
def SurveyLoopsUptoCardSaid : Prop := Claim7.holds Tryd.pinned (.plain (OpenSpec.upto surveyLoopsSpec)) surveyLoopsUptoCard
end Rows
end Go.Proofs.YtecmkjefoppbiaaDoor
