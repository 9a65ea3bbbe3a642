/-
  The same answer of two chains; the angle of a point, of any point.
-/
import Derived.Test.YtmiamfnnccjmeacAngleOf
import Derived.Test.YtmiamfnnccjmeacLen
namespace Go.Proofs.Ytmiamfnnccjmeac
open Go.RowKit FB
attribute [local go_sem] run_store_float

theorem angle_any (y x : Nat) (hy : y < 18446744073709551616) (hx : x < 18446744073709551616) (w : World) : Calls Try.prog 15 #[.float .f64 y, .float .f64 x] w fun e w' => e = .returned (.tuple #[.int .i64 (angV y x).1, .bool (angV y x).2]) ∧ Below w.heap.size w w' := by
  cases h1 : finV y with
  | false =>
    have : angV y x = (0, false) := by unfold angV; rw [h1]; rfl
    rw [this]; exact angle_no1 y x hy h1 w
  | true =>
    cases h2 : finV x with
    | false =>
      have : angV y x = (0, false) := by unfold angV; rw [h1, h2]; rfl
      rw [this]; exact angle_no2 y x hy hx h1 h2 w
    | true =>
      cases h3 : (isZ y && isZ x) with
      | true =>
        have : angV y x = (0, false) := by unfold angV; rw [h1, h2, h3]; rfl
        rw [this]
        rw [Bool.and_eq_true] at h3
        exact angle_no3 y x hy hx h1 h2 h3.1 h3.2 w
      | false =>
        have : (angV y x).2 = true := by
          unfold angV; rw [h1, h2, h3]
          simp only [Bool.not_true, Bool.or_self, Bool.false_eq_true, if_false]
          split <;> first | rfl | (split <;> first | rfl | (split <;> rfl))
        rw [this]; exact angle_yes y x hy hx h1 h2 h3 w
theorem angleOf_any (y x : Nat) (hy : y < 18446744073709551616) (hx : x < 18446744073709551616) (w : World) : Calls Try.prog 18 #[.float .f64 y, .float .f64 x] w fun e w' => e = .returned (.tuple #[.int .i64 (angV y x).1, .bool (angV y x).2]) ∧ Below w.heap.size w w' := by
  cases h : (!finV y || !finV x || (isZ y && isZ x)) with
  | true =>
    have : angV y x = (0, false) := by unfold angV; rw [h]; rfl
    rw [this]
    exact angleOf_no y x (by rw [← h]; cases finV x <;> cases finV y <;> cases isZ x <;> cases isZ y <;> rfl) w
  | false =>
    have h' := h
    simp only [Bool.or_eq_false_iff, Bool.not_eq_false'] at h'
    have : (angV y x).2 = true := by
      unfold angV; rw [h]
      simp only [Bool.false_eq_true, if_false]
      split <;> first | rfl | (split <;> first | rfl | (split <;> rfl))
    rw [this]; exact angleOf_yes y x hy hx h'.1.1 h'.1.2 h'.2 w
end Go.Proofs.Ytmiamfnnccjmeac
