/-
  mercatorref3.GroundAt on the ground; mercatorlaw3.groundIs; relief.along.
-/
import Derived.Test.YthbobceghbknoaaDoorQRlE
import Derived.Test.YthbobceghbknoaaDoorQFdN
namespace Go.Proofs.YthbobceghbknoaaDoor
open Go.RowKit

theorem gh_bd {m n X S : Nat} {l : List Int} (ok : Ok l m n) : -4294967296 ≤ gh l m n X S ∧ gh l m n X S ≤ 4294967296 := rise_bd (ok.hi _) (ok.hi _) (ok.hi _) (ok.hi _) (by omega) (by omega) (by omega) (by omega)
/-- A number between two, rounded down. -/
def alo (f t k p : Int) : Int := f + k * (t - f) / p
/-- What is between two numbers stays there. -/
theorem alo_bd {f t k p : Int} (hp : 1 ≤ p) (hk : 0 ≤ k) (hkp : k ≤ p) : min f t ≤ alo f t k p ∧ alo f t k p ≤ max f t := by
  unfold alo
  rcases Int.le_total f t with h | h
  · have h1 : k * (t - f) ≤ p * (t - f) := Int.mul_le_mul_of_nonneg_right hkp (by omega)
    have h0 : 0 ≤ k * (t - f) := Int.mul_nonneg hk (by omega)
    have h2 : k * (t - f) / p ≤ t - f := Int.ediv_le_of_le_mul (by omega) (by rw [Int.mul_comm (t - f) p]; exact h1)
    have h3 : 0 ≤ k * (t - f) / p := Int.ediv_nonneg h0 (by omega)
    omega
  · have h1 : p * (t - f) ≤ k * (t - f) := Int.mul_le_mul_of_nonpos_right hkp (by omega)
    have h0 : k * (t - f) ≤ 0 := Int.mul_nonpos_of_nonneg_of_nonpos hk (by omega)
    have h2 : t - f ≤ k * (t - f) / p := (Int.le_ediv_iff_mul_le (by omega)).2 (by rw [Int.mul_comm (t - f) p]; exact h1)
    have h3 : k * (t - f) / p ≤ 0 := Int.ediv_le_of_le_mul (by omega) (by omega)
    omega
end Go.Proofs.YthbobceghbknoaaDoor
