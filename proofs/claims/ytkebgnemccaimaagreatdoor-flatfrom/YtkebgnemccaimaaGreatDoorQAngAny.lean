/-
  The same answer of two chains; the angle of a point, of any point.
-/
import Derived.Test.YtkebgnemccaimaaGreatDoorQAngleOf
import Derived.Test.YtkebgnemccaimaaGreatDoorQJ2
namespace Go.Proofs.YtkebgnemccaimaaGreatDoor
open Go.RowKit FB
attribute [local go_sem] run_store_float

theorem same_got {o : Option Nat} {r s : Nat} (hr : Got o r) (hs : Got o s) (w : World) : Calls Tryz.prog 22 #[.float .f64 r, .float .f64 s] w fun e w' => e = .returned (.bool true) ∧ w' = w := by
  cases o with
  | none => exact same_nan r s hr hs w
  | some q =>
    obtain rfl : r = q := hr
    obtain rfl : s = r := hs
    cases h : Ieee.double.read s with
    | number t m e => exact same_num s s ⟨t, m, e, h⟩ (order_self ⟨t, m, e, h⟩) w
    | infinity t => exact same_inf s t h w
    | nan t f => exact same_nan s s ⟨t, f, h⟩ ⟨t, f, h⟩ w

theorem angle_any (y x : Nat) (hy : y < 18446744073709551616) (hx : x < 18446744073709551616) (w : World) : Calls Tryz.prog 60 #[.float .f64 y, .float .f64 x] w fun e w' => e = .returned (.tuple #[.int .i64 (angV y x).1, .bool (angV y x).2]) ∧ Below w.heap.size w w' := by
  cases h1 : finV y with
  | false =>
    have : angV y x = (0, false) := by unfold angV; rw [h1]; rfl
    rw [this]; exact angle_no1 y x hy h1 w
  | true =>
    cases h2 : finV x with
    | false =>
      have : angV y x = (0, false) := by unfold angV; rw [h1, h2]; rfl
      rw [this]; exact angle_no2 y x hy hx h1 h2 w
    | true =>
      cases h3 : (isZ y && isZ x) with
      | true =>
        have : angV y x = (0, false) := by unfold angV; rw [h1, h2, h3]; rfl
        rw [this]
        rw [Bool.and_eq_true] at h3
        exact angle_no3 y x hy hx h1 h2 h3.1 h3.2 w
      | false =>
        have : (angV y x).2 = true := by
          unfold angV; rw [h1, h2, h3]
          simp only [Bool.not_true, Bool.or_self, Bool.false_eq_true, if_false]
          split <;> first | rfl | (split <;> first | rfl | (split <;> rfl))
        rw [this]; exact angle_yes y x hy hx h1 h2 h3 w
theorem angleOf_any (y x : Nat) (hy : y < 18446744073709551616) (hx : x < 18446744073709551616) (w : World) : Calls Tryz.prog 113 #[.float .f64 y, .float .f64 x] w fun e w' => e = .returned (.tuple #[.int .i64 (angV y x).1, .bool (angV y x).2]) ∧ Below w.heap.size w w' := by
  cases h : (!finV y || !finV x || (isZ y && isZ x)) with
  | true =>
    have : angV y x = (0, false) := by unfold angV; rw [h]; rfl
    rw [this]
    exact angleOf_no y x (by rw [← h]; cases finV x <;> cases finV y <;> cases isZ x <;> cases isZ y <;> rfl) w
  | false =>
    have h' := h
    simp only [Bool.or_eq_false_iff, Bool.not_eq_false'] at h'
    have : (angV y x).2 = true := by
      unfold angV; rw [h]
      simp only [Bool.false_eq_true, if_false]
      split <;> first | rfl | (split <;> first | rfl | (split <;> rfl))
    rw [this]; exact angleOf_yes y x hy hx h'.1.1 h'.1.2 h'.2 w
end Go.Proofs.YtkebgnemccaimaaGreatDoor
