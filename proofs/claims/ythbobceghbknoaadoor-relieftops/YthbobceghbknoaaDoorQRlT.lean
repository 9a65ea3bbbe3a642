/-
  Sums over the squares of a raster; what a triangle counts.
-/
import Derived.Test.YthbobceghbknoaaDoorQRlS
namespace Go.Proofs.YthbobceghbknoaaDoor
open Go.RowKit

def rowS (f : Nat → Nat → Nat) (r : Nat) : Nat → Nat
  | 0 => 0
  | c + 1 => rowS f r c + f r c
def allS (f : Nat → Nat → Nat) (cols : Nat) : Nat → Nat
  | 0 => 0
  | r + 1 => allS f cols r + rowS f r cols
theorem rowS_le {f : Nat → Nat → Nat} (h : ∀ r c, f r c ≤ 2) (r : Nat) : ∀ c, rowS f r c ≤ 2 * c
  | 0 => Nat.le_refl _
  | c + 1 => by have := rowS_le h r c; have := h r c; unfold rowS; omega
theorem allS_le {f : Nat → Nat → Nat} (h : ∀ r c, f r c ≤ 2) {cols : Nat} (hc : cols ≤ 128) : ∀ r, allS f cols r ≤ 256 * r
  | 0 => Nat.le_refl _
  | r + 1 => by have := allS_le h hc r; have := rowS_le h r cols; unfold allS; omega
/-- How far a corner lies above a height; what the two triangles of a square count. -/
def dv (num den : Int) (x : Int) : Int := x * den - num
def whC (l : List Int) (m : Nat) (num den : Int) (r c : Nat) : Nat := whI (dv num den (gl l (r * m + c))) (dv num den (gl l (r * m + c + 1))) (dv num den (gl l ((r + 1) * m + c + 1))) + whI (dv num den (gl l (r * m + c))) (dv num den (gl l ((r + 1) * m + c))) (dv num den (gl l ((r + 1) * m + c + 1)))
def ptC (l : List Int) (m : Nat) (num den : Int) (r c : Nat) : Nat := ptI (dv num den (gl l (r * m + c))) (dv num den (gl l (r * m + c + 1))) (dv num den (gl l ((r + 1) * m + c + 1))) + ptI (dv num den (gl l (r * m + c))) (dv num den (gl l ((r + 1) * m + c))) (dv num den (gl l ((r + 1) * m + c + 1)))
theorem whI_le (x y z : Int) : whI x y z ≤ 1 := by unfold whI; split <;> omega
theorem ptI_le (x y z : Int) : ptI x y z ≤ 1 := by unfold ptI; split <;> omega
theorem whC_le (l : List Int) (m : Nat) (num den : Int) (r c : Nat) : whC l m num den r c ≤ 2 := Nat.add_le_add (whI_le _ _ _) (whI_le _ _ _)
theorem ptC_le (l : List Int) (m : Nat) (num den : Int) (r c : Nat) : ptC l m num den r c ≤ 2 := Nat.add_le_add (ptI_le _ _ _) (ptI_le _ _ _)
theorem mn2_mul {x y d : Int} (hd : 1 ≤ d) : mn2 x y * d = mn2 (x * d) (y * d) := by
  unfold mn2
  have h : y < x ↔ y * d < x * d := (Int.mul_lt_mul_right (show 0 < d by omega)).symm
  by_cases c : y < x
  · rw [if_pos c, if_pos (h.1 c)]
  · rw [if_neg c, if_neg (fun k => c (h.2 k))]
theorem mx2_mul {x y d : Int} (hd : 1 ≤ d) : mx2 x y * d = mx2 (x * d) (y * d) := by
  unfold mx2
  have h : x < y ↔ x * d < y * d := (Int.mul_lt_mul_right (show 0 < d by omega)).symm
  by_cases c : x < y
  · rw [if_pos c, if_pos (h.1 c)]
  · rw [if_neg c, if_neg (fun k => c (h.2 k))]
theorem mn2_hi {x y : Int} (hx : hiI x) (hy : hiI y) : hiI (mn2 x y) := by unfold mn2; split; exact hy; exact hx
theorem mx2_hi {x y : Int} (hx : hiI x) (hy : hiI y) : hiI (mx2 x y) := by unfold mx2; split; exact hy; exact hx
theorem den_mul {x d : Int} (hx : hiI x) (h1 : 1 ≤ d) (h2 : d ≤ 1048576) : -1099511627776 ≤ x * d ∧ x * d ≤ 1099511627776 := by
  obtain ⟨a1, a2⟩ := hx
  have k1 : x * d ≤ 1048576 * d := Int.mul_le_mul_of_nonneg_right (by omega) (by omega)
  have k2 : (-1048576) * d ≤ x * d := Int.mul_le_mul_of_nonneg_right (by omega) (by omega)
  omega
/-- A triangle's least and greatest corner tell how it lies. -/
theorem tri_tell (num den x y z : Int) (hd : 1 ≤ den) : (num < mn2 (mn2 x y) z * den → whI (dv num den x) (dv num den y) (dv num den z) = 1 ∧ ptI (dv num den x) (dv num den y) (dv num den z) = 0) ∧ (mn2 (mn2 x y) z * den ≤ num → (mn2 (mn2 x y) z * den < num ∧ num < mx2 (mx2 x y) z * den) → whI (dv num den x) (dv num den y) (dv num den z) = 0 ∧ ptI (dv num den x) (dv num den y) (dv num den z) = 1) ∧ (mn2 (mn2 x y) z * den ≤ num → (mn2 (mn2 x y) z * den < num → mx2 (mx2 x y) z * den ≤ num) → whI (dv num den x) (dv num den y) (dv num den z) = 0 ∧ ptI (dv num den x) (dv num den y) (dv num den z) = 0) := by
  rw [mn2_mul hd, mn2_mul hd, mx2_mul hd, mx2_mul hd]
  unfold dv
  generalize x * den = x'
  generalize y * den = y'
  generalize z * den = z'
  unfold whI ptI mn2 mx2
  refine ⟨fun h => ?_, fun h k => ?_, fun h k => ?_⟩
  · constructor
    · rw [if_pos (by revert h; split <;> split <;> omega)]
    · rw [if_neg (by revert h; split <;> split <;> omega)]
  · obtain ⟨k1, k2⟩ := k
    constructor
    · rw [if_neg (by revert k1 h; split <;> split <;> omega)]
    · rw [if_pos (by revert k1 k2 h; split <;> split <;> split <;> split <;> omega)]
  · constructor
    · rw [if_neg (by revert h; split <;> split <;> omega)]
    · rw [if_neg (by revert k h; split <;> split <;> split <;> split <;> omega)]
theorem idxT0 (a b c d : Int) (w : World) : (Instr.index 67 (trV a b c d) (.int .i64 0)).run Tryd.prog w = .ok (.agg #[.int .i64 a, .int .i64 b, .int .i64 d]) w := by kernel_rfl
theorem idxT1 (a b c d : Int) (w : World) : (Instr.index 67 (trV a b c d) (.int .i64 1)).run Tryd.prog w = .ok (.agg #[.int .i64 a, .int .i64 c, .int .i64 d]) w := by kernel_rfl
end Go.Proofs.YthbobceghbknoaaDoor
