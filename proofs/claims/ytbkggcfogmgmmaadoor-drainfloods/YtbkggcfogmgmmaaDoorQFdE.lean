/-
  mercatorref3.RastersError.
-/
import Derived.Test.YtbkggcfogmgmmaaDoorQFdC
namespace Go.Proofs.YtbkggcfogmgmmaaDoor
open Go.RowKit

theorem vcode_lt (W H : Int) (l : List Int) : vcode W H l < 5 := by unfold vcode; split <;> (try split) <;> (try split) <;> omega
end Go.Proofs.YtbkggcfogmgmmaaDoor
