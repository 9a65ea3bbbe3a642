/-
  field.side, scaled, reached, around; mercatorref3.Down.
-/
import Derived.Test.YthbobceghbknoaaDoorQJ2
namespace Go.Proofs.YthbobceghbknoaaDoor
open Go.RowKit

def scode (W H : Int) (l : List Int) (n : Int) : Nat := if vcode W H l = 0 then (if inI 1 128 n then 0 else 3) else vcode W H l
def hcode (W H : Int) (l : List Int) (n : Int) : Nat := if vcode W H l = 0 then (if inI 0 128 n then 0 else 3) else vcode W H l
/-- Over a number above 0, rounded down. -/
theorem down_eq (a b : Int) (hb : 1 ≤ b) (ha : a < 0) : (-a + b - 1).tdiv b = -(a / b) := by
  rw [Int.tdiv_eq_ediv_of_nonneg (by omega)]
  have h2 : b * (a / b) + a % b = a := by have := Int.emod_def a b; omega
  have h3 := Int.emod_nonneg a (show b ≠ 0 by omega)
  have h4 := Int.emod_lt_of_pos a (show 0 < b by omega)
  have h5 : -a + b - 1 = (b - 1 - a % b) + b * (-(a / b)) := by rw [Int.mul_neg]; omega
  rw [h5, Int.add_mul_ediv_left _ _ (by omega), Int.ediv_eq_zero_of_lt (by omega) (by omega)]
  omega
end Go.Proofs.YthbobceghbknoaaDoor
