/-
  mercatorlaw2.zoned.
-/
import Derived.Test.YtfahmaapodoaaaaGreatDoorQGlA
namespace Go.Proofs.YtfahmaapodoaaaaGreatDoor
open Go.RowKit

theorem wrq {n : Int} (h1 : -9223372036854775808 ≤ n) (h2 : n ≤ 9223372036854775807) : IntKind.i64.wrap n = n := by simp [IntKind.wrap, IntKind.signed, IntKind.bits]; omega
theorem normZ (n : Int) (h1 : 0 ≤ n) (h2 : n < 360000000000) (w : World) : Calls Tryz.prog 20 #[.int .i64 n] w fun e w' => e = .returned (.int .i64 n) ∧ w' = w := by
  have e1 : n.tmod 360000000000 = n := by rw [Int.tmod_eq_emod_of_nonneg h1, Int.emod_eq_of_lt h1 h2]
  have e2 : ¬ n < 0 := by omega
  have e3 : IntKind.i64.wrap n = n := wrq (by omega) (by omega)
  clear h1 h2
  go_enter Tryz.func20, Tryz.ntmps20
  go_wp2
  go_ret
  exact ⟨rfl, rfl⟩
theorem zoneZ (w : World) : Calls Tryz.prog 7 #[.int .i64 3000000000] w fun e w' => e = .returned (.int .i64 31) ∧ w' = w := by
  have H1 := hidb (fun w => normZ 3000000000 (by decide) (by decide) w)
  have H2 := hidb (fun w => normZ 183000000000 (by decide) (by decide) w)
  go_enter Tryz.func7, Tryz.ntmps7
  go_wp2_with fail
  refine (H1.out _).mono ?_
  rintro e w1 ⟨rfl, rfl⟩
  go_wp2_with fail
  refine (H2.out _).mono ?_
  rintro e w1 ⟨rfl, rfl⟩
  go_wp2
  go_ret
  exact ⟨rfl, rfl⟩
theorem middleZ (w : World) : Calls Tryz.prog 5 #[.int .i64 31] w fun e w' => e = .returned (.tuple #[.int .i64 3000000000, .nilIface]) ∧ w' = w := by
  go_enter Tryz.func5, Tryz.ntmps5
  go_wp2
  go_ret2
  exact ⟨rfl, rfl⟩
theorem zonedZ (w : World) : Calls Tryz.prog 4 #[] w fun e w' => e = .returned (.bool true) ∧ w' = w := by
  have H1 := hidb middleZ
  have H2 := hidb zoneZ
  go_enter Tryz.func4, Tryz.ntmps4
  go_wp2_with fail
  refine (H1.out _).mono ?_
  rintro e w1 ⟨rfl, rfl⟩
  go_wp2_with fail
  refine (H2.out _).mono ?_
  rintro e w1 ⟨rfl, rfl⟩
  go_wp2
  go_ret
  exact ⟨rfl, rfl⟩
end Go.Proofs.YtfahmaapodoaaaaGreatDoor
