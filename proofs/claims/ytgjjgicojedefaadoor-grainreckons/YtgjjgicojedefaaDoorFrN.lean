/-
  Whole numbers of 128 bits in two words; fractions in their lowest terms. No Go text is named here.
-/
import Derived.Test.YtgjjgicojedefaaDoorBgN
namespace Go.Proofs.YtgjjgicojedefaaDoor

/-- The high word and the low word of a number, below 0 as its two's complement. -/
def hi2 (z : Int) : Int := z / 18446744073709551616 % 18446744073709551616
def lo2 (z : Int) : Int := z % 18446744073709551616
/-- The borrow. -/
def bor (x y : Int) : Int := if x < y then 1 else 0
theorem bor_0 (x y : Int) : 0 ≤ bor x y := by unfold bor; split <;> decide
theorem bor_1 (x y : Int) : bor x y ≤ 1 := by unfold bor; split <;> decide
theorem hi2_0 (z : Int) : 0 ≤ hi2 z := by unfold hi2; omega
theorem hi2_1 (z : Int) : hi2 z < 18446744073709551616 := by unfold hi2; omega
theorem lo2_0 (z : Int) : 0 ≤ lo2 z := by unfold lo2; omega
theorem lo2_1 (z : Int) : lo2 z < 18446744073709551616 := by unfold lo2; omega
theorem lo_neg (z : Int) : (0 - lo2 z) % 18446744073709551616 = lo2 (-z) := by unfold lo2; omega
theorem hi_neg (z : Int) : (0 - hi2 z - bor 0 (lo2 z)) % 18446744073709551616 = hi2 (-z) := by unfold hi2 lo2 bor; split <;> omega
theorem lo_add (x y : Int) : (lo2 x + lo2 y) % 18446744073709551616 = lo2 (x + y) := by unfold lo2; omega
theorem hi_add (x y : Int) : (hi2 x + hi2 y + (lo2 x + lo2 y) / 18446744073709551616) % 18446744073709551616 = hi2 (x + y) := by unfold hi2 lo2; omega
theorem hi_nat (n : Nat) (h : n < 340282366920938463463374607431768211456) : ((n / 18446744073709551616 : Nat) : Int) = hi2 (n : Int) := by unfold hi2; omega
theorem lo_nat (n : Nat) : ((n % 18446744073709551616 : Nat) : Int) = lo2 (n : Int) := by unfold lo2; omega
theorem mul_128 {a b : Nat} (ha : a < 18446744073709551616) (hb : b < 18446744073709551616) : a * b < 340282366920938463463374607431768211456 := by
  have h := Nat.mul_le_mul (show a ≤ 18446744073709551615 by omega) (show b ≤ 18446744073709551615 by omega)
  omega
/-- -1, 0, 1. -/
def sg (z : Int) : Int := if z < 0 then -1 else if z = 0 then 0 else 1
/-- The number is in reach of a sign. -/
def Wid (z : Int) : Prop := -170141183460469231731687303715884105728 ≤ z ∧ z < 170141183460469231731687303715884105728
theorem sign_neg {z : Int} (h : Wid z) : hi2 z / 9223372036854775808 = 1 ↔ z < 0 := by unfold Wid at h; unfold hi2; omega
theorem sign_zero {z : Int} (h : Wid z) : hi2 z = 0 ∧ lo2 z = 0 ↔ z = 0 := by unfold Wid at h; unfold hi2 lo2; omega
theorem wid_add {x y : Int} (hx : x.natAbs ≤ 21267647932558653966460912964485513216) (hy : y.natAbs ≤ 21267647932558653966460912964485513216) : Wid (x + y) := by unfold Wid; omega
theorem prod_62 {x y : Int} (hx : x.natAbs ≤ 4611686018427387904) (hy : y.natAbs ≤ 4611686018427387904) : (x * y).natAbs ≤ 21267647932558653966460912964485513216 := by
  rw [Int.natAbs_mul]
  exact Nat.le_trans (Nat.mul_le_mul hx hy) (by decide +kernel)
end Go.Proofs.YtgjjgicojedefaaDoor
