/-
  shape.Simple.
-/
import Derived.Test.YtnadgoomkaldkaaDoorQSrH
import Derived.Test.YtnadgoomkaldkaaDoorQSrG
import Derived.Test.YtnadgoomkaldkaaDoorQSrP
namespace Go.Proofs.YtnadgoomkaldkaaDoor
open Go.RowKit Go.Maps
attribute [local go_sem ↓] Go.wp_at_zero Go.wp_at_succ

end Go.Proofs.YtnadgoomkaldkaaDoor
