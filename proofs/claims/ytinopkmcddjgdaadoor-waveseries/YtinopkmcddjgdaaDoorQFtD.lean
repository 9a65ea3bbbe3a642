/-
  flat: aside, fromPole; mercatorref2: upOf, downOf.
-/
import Derived.Test.YtinopkmcddjgdaaDoorQFtC
namespace Go.Proofs.YtinopkmcddjgdaaDoor
open Go.RowKit FB
attribute [local go_sem] run_store_float

theorem hnegA (x : Nat) (w : World) : (Op.unary .neg (.float .f64 x)).run Tryd.prog w = .ok (.float .f64 (Op.negFloat .f64 x)) w := rfl
def liO (n : Int) : Option Nat := oM (some (floatOfInt .f64 (sgn n))) (some 4445950764994258515)
def asO (a m : Nat) (n : Int) : Option Nat := oM (raO a m) (liO n)
noncomputable def dnO (a m f : Nat) (n : Int) : Option Nat := oD (oM (oM (some twoW) (raO a m)) (oX (oN (isO f n)))) (poO f)
end Go.Proofs.YtinopkmcddjgdaaDoor
