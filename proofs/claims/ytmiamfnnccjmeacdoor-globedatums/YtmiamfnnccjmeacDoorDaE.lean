/-
  Datums: the product of two vectors.
-/
import Derived.Test.YtmiamfnnccjmeacDoorDaD
namespace Go.Proofs.YtmiamfnnccjmeacDoor
open Go.RowKit FB
attribute [local go_sem] run_store_float

set_option maxHeartbeats 1000000 in
theorem dot_any {a b c x y z : Nat} (a1 : Ieee.double.mul a x = some (FM a x)) (a2 : Ieee.double.mul b y = some (FM b y)) (a3 : Ieee.double.add (FM a x) (FM b y) = some (FA (FM a x) (FM b y))) (a4 : Ieee.double.mul c z = some (FM c z)) (a5 : Ieee.double.add (FA (FM a x) (FM b y)) (FM c z) = some (FA (FA (FM a x) (FM b y)) (FM c z))) (w : World) : Calls Tryd.prog 29 #[vV a b c, vV x y z] w fun e w' => e = .returned (.float .f64 (FA (FA (FM a x) (FM b y)) (FM c z))) ∧ Below w.heap.size w w' := by
  have e1 := fun w => hmul a1 w
  have e2 := fun w => hmul a2 w
  have e3 := fun w => hadd a3 w
  have e4 := fun w => hmul a4 w
  have e5 := fun w => hadd a5 w
  go_enter Tryd.func29, Tryd.ntmps29
  go_wp2
  go_ret
  exact ⟨rfl, ((Below.refl _ _).alloc (Nat.le_refl _) _).alloc (by simp) _⟩
end Go.Proofs.YtmiamfnnccjmeacDoor
