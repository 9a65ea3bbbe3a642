/-
  basin.lakes, walked.; basin.Lakes.
-/
import Derived.Test.YtddnebgnohlchaaGreatDoorQJ21
namespace Go.Proofs.YtddnebgnohlchaaGreatDoor
open Go.RowKit
attribute [local go_sem ↓] Go.wp_at_zero Go.wp_at_succ

end Go.Proofs.YtddnebgnohlchaaGreatDoor
namespace Go.Proofs.YtddnebgnohlchaaGreatDoor
open Go.RowKit
attribute [local go_sem ↓] Go.wp_at_zero Go.wp_at_succ

end Go.Proofs.YtddnebgnohlchaaGreatDoor
