/-
  mercatorref2.angle: the angle of any point.
-/
import Derived.Test.YtinopkmcddjgdaaGreatDoorQJ6
import Derived.Test.YtinopkmcddjgdaaGreatDoorQMem
namespace Go.Proofs.YtinopkmcddjgdaaGreatDoor
open Go.RowKit FB

theorem angR_any (y x : Nat) (hy : y < 18446744073709551616) (hx : x < 18446744073709551616) (w : World) : Calls Tryz.prog 42 #[.float .f64 y, .float .f64 x] w fun e w' => e = .returned (.int .i64 (angV y x).1) ∧ Gr w w' := by
  have HA := hid (fun w => angleOf_any y x hy hx w)
  clear hy hx
  go_enter Tryz.func42, Tryz.ntmps42
  go_wp2_with fail
  refine (HA.out _).mono ?_
  rintro e w1 ⟨rfl, hB⟩
  go_wp2
  go_ret
  exact ⟨rfl, hB⟩
end Go.Proofs.YtinopkmcddjgdaaGreatDoor
