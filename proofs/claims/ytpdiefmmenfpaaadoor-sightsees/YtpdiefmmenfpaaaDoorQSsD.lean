/-
  cmp.Compare; the closure by which sight.Stops sorts; slices.SortFunc with it.
-/
import Derived.Test.YtpdiefmmenfpaaaDoorQSsC
import Derived.Test.YtpdiefmmenfpaaaDoorQSsS
namespace Go.Proofs.YtpdiefmmenfpaaaDoor
open Go.RowKit
attribute [local go_sem ↓] Go.wp_at_zero Go.wp_at_succ

/-- Fractions within 0 and 1 in lowest terms. -/
abbrev RF : Type := { x : Int × Int // 1 ≤ x.1 ∧ x.1 < x.2 ∧ x.2 ≤ 254 ∧ Int.gcd x.1 x.2 = 1 }
instance rfInh : Inhabited RF := ⟨⟨(1, 2), by decide⟩⟩
def encF (x : RF) : List Value := [.int .i64 x.1.1, .int .i64 x.1.2]
def cfF (x y : RF) : Int := Go.Lib.compareInt (x.1.1 * y.1.2) (y.1.1 * x.1.2)
theorem ltF (x y : RF) : Go.Proofs.ltOf cfF x y = decide (x.1.1 * y.1.2 < y.1.1 * x.1.2) := by
  unfold Go.Proofs.ltOf cfF Go.Lib.compareInt
  by_cases h1 : x.1.1 * y.1.2 < y.1.1 * x.1.2
  · simp [h1]
  · by_cases h2 : x.1.1 * y.1.2 > y.1.1 * x.1.2 <;> simp [h1, h2]
theorem isnan_any (a : Int) (w : World) : Calls Tryd.prog 68 #[.int .i64 a] w fun e w' => e = .returned (.bool false) ∧ w' = w := by
  go_enter Tryd.func68, Tryd.ntmps68
  go_wp2
  go_ret
  exact ⟨by simp, rfl⟩
set_option maxHeartbeats 2000000 in
theorem compare_any (a b : Int) (w : World) : Calls Tryd.prog 44 #[.int .i64 a, .int .i64 b] w fun e w' => e = .returned (.int .i64 (Go.Lib.compareInt a b)) ∧ w' = w := by
  have hi := fun x W => isnan_any x W
  by_cases h1 : a < b
  · have e : Go.Lib.compareInt a b = -1 := by simp [Go.Lib.compareInt, h1]
    rw [e]
    go_enter Tryd.func44, Tryd.ntmps44
    go_wp2_with (go_at_call 68; refine (hi _ _).mono ?_; rintro e w' ⟨rfl, rfl⟩)
    go_ret
    exact ⟨rfl, rfl⟩
  · by_cases h2 : b < a
    · have e : Go.Lib.compareInt a b = 1 := by simp [Go.Lib.compareInt, h1, h2]
      rw [e]
      go_enter Tryd.func44, Tryd.ntmps44
      go_wp2_with (go_at_call 68; refine (hi _ _).mono ?_; rintro e w' ⟨rfl, rfl⟩)
      go_ret
      exact ⟨rfl, rfl⟩
    · have e : Go.Lib.compareInt a b = 0 := by simp [Go.Lib.compareInt, h1, h2]
      rw [e]
      go_enter Tryd.func44, Tryd.ntmps44
      go_wp2_with (go_at_call 68; refine (hi _ _).mono ?_; rintro e w' ⟨rfl, rfl⟩)
      go_ret
      exact ⟨rfl, rfl⟩
theorem rf_mul (x y : RF) : IntKind.i64.wrap (x.1.1 * y.1.2) = x.1.1 * y.1.2 := by
  obtain ⟨⟨a, b⟩, h1, h2, h3, -⟩ := x
  obtain ⟨⟨c, d⟩, k1, k2, k3, -⟩ := y
  simp only at *
  have u1 : 0 ≤ a * d := Int.mul_nonneg (by omega) (by omega)
  have u2 : a * d ≤ 254 * 254 := Int.mul_le_mul (by omega) (by omega) (by omega) (by omega)
  exact wrap_in (by omega) (by omega)
set_option maxHeartbeats 2000000 in
theorem stops1c_any (x y : RF) (W : World) : Calls Tryd.prog 43 #[.agg #[.int .i64 x.1.1, .int .i64 x.1.2], .agg #[.int .i64 y.1.1, .int .i64 y.1.2]] W fun e w' => e = .returned (.int .i64 (cfF x y)) ∧ ∃ q os', w' = Go.Sort.grow (W.drewN q) os' := by
  have m1 := rf_mul x y
  have m2 := rf_mul y x
  have hcon := fun W' => compare_any (x.1.1 * y.1.2) (y.1.1 * x.1.2) W'
  unfold cfF
  generalize Go.Lib.compareInt (x.1.1 * y.1.2) (y.1.1 * x.1.2) = r at hcon ⊢
  go_enter Tryd.func43, Tryd.ntmps43
  go_wp2_with (go_at_call 44; refine (hcon _).mono ?_; rintro e w' ⟨rfl, rfl⟩)
  go_ret
  exact ⟨rfl, 0, _, by rw [Go.Sort.alloc_eq_grow, Go.Sort.alloc_eq_grow, Go.Sort.grow_grow]; rfl⟩
end Go.Proofs.YtpdiefmmenfpaaaDoor
