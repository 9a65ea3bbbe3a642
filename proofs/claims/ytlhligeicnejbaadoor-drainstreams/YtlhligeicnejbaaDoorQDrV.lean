/-
  DrainFloods: where the raster is no small one; where it is no right one.
-/
import Derived.Test.YtlhligeicnejbaaDoorQJ12
import Derived.Test.YtlhligeicnejbaaDoorQJ4
namespace Go.Proofs.YtlhligeicnejbaaDoor
open Go.RowKit
attribute [local go_sem ↓] Go.wp_at_zero Go.wp_at_succ

end Go.Proofs.YtlhligeicnejbaaDoor
