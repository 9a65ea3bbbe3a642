/-
  mercatorref5.Spare.
-/
import Derived.Test.YtnadgoomkaldkaaDoorQTk
import Derived.Test.YtnadgoomkaldkaaDoorQJ12
import Derived.Test.YtnadgoomkaldkaaDoorQJ11
import Derived.Test.YtnadgoomkaldkaaDoorQSfI
import Derived.Test.YtnadgoomkaldkaaDoorQJ10
namespace Go.Proofs.YtnadgoomkaldkaaDoor
open Go.RowKit
attribute [local go_sem ↓] Go.wp_at_zero Go.wp_at_succ

noncomputable def spB (most : Int) (Ls : List (List Sp)) (i k : Nat) : Bool := @decide (spP most Ls i k) (Classical.propDecidable _)
/-- A point that is not in the triangle, or is a corner of it. -/
def okX (a b c x : Sp) : Prop := ¬ x = a → ¬ x = b → ¬ x = c → ¬ rfP a b c x
end Go.Proofs.YtnadgoomkaldkaaDoor
