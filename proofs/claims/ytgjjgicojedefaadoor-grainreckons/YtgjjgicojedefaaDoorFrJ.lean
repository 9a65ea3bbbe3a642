/-
  mercatorlaw1: makes, small, coded.
-/
import Derived.Test.YtgjjgicojedefaaDoorFrI
namespace Go.Proofs.YtgjjgicojedefaaDoor
open Go.RowKit BG
attribute [local go_sem ↓] Go.wp_at_zero Go.wp_at_succ

theorem make_46 (w : World) : Calls Tryd.prog 11 #[.int .i64 4, .int .i64 (-6)] w fun e w' => e = .returned (.tuple #[.agg #[.int .i64 (-2), .int .i64 3], .nilIface]) ∧ Below w.heap.size w w' := by
  have e1 : rn (4 : Int).natAbs (-6 : Int).natAbs = 2 := by decide +kernel
  have e2 : rd (4 : Int).natAbs (-6 : Int).natAbs = 3 := by decide +kernel
  have h := make_ok 4 (-6) (by decide) (by decide) (by decide) (by decide) (by decide) (by rw [e1, e2]; decide) w
  rw [e1, e2] at h
  exact h
theorem makes_any (w : World) : Calls Tryd.prog 9 #[] w fun e w' => e = .returned (.bool true) ∧ Below w.heap.size w w' := by
  have HM := hidb make_46
  go_enter Tryd.func9, Tryd.ntmps9
  go_wp2_with fail
  refine (HM.out _).mono ?_
  rintro e w1 ⟨rfl, hB⟩
  have HC := Gr.step (Gr.refl w) hB
  clear hB
  go_wp2
  go_ret
  exact ⟨rfl, HC.alloc _⟩
theorem small_any (n : Int) (w : World) : Calls Tryd.prog 10 #[.int .i64 n] w fun e w' => e = .returned (.bool (n != -9223372036854775808)) ∧ w' = w := by
  go_enter Tryd.func10, Tryd.ntmps10
  go_wp2
  go_ret
  exact ⟨rfl, rfl⟩
theorem coded_2 (g : Nat → Addr) (w : World) (hl : Laid w g) : Calls Tryd.prog 8 #[errV g 1, .int .i64 2] w fun e w' => e = .returned (.bool true) ∧ Below w.heap.size w w' := coded_sent g 1 (by decide) 2 w hl
theorem coded_3 (g : Nat → Addr) (w : World) (hl : Laid w g) : Calls Tryd.prog 8 #[errV g 2, .int .i64 3] w fun e w' => e = .returned (.bool true) ∧ Below w.heap.size w w' := coded_sent g 2 (by decide) 3 w hl
end Go.Proofs.YtgjjgicojedefaaDoor
