/-
  grain's wide.over, wide.left.; A fraction in its lowest terms, or none: what grain.bounded and mercatorref1.Reduced answer.
-/
import Derived.Test.YtecmkjefoppbiaaDoorQFrV
import Derived.Test.YtecmkjefoppbiaaDoorQJ5
namespace Go.Proofs.YtecmkjefoppbiaaDoor
open Go.RowKit BG

theorem w2_nat {n : Nat} (h : n < 340282366920938463463374607431768211456) : W2 (n : Int) = .agg #[.int .u64 ((n / 18446744073709551616 : Nat) : Int), .int .u64 ((n % 18446744073709551616 : Nat) : Int)] := by
  unfold W2
  rw [hi_nat n h, lo_nat n]
theorem split_words {t q p : Nat} (h : t = q * 18446744073709551616 + p) (hp : p < 18446744073709551616) : t / 18446744073709551616 = q ∧ t % 18446744073709551616 = p := by omega
end Go.Proofs.YtecmkjefoppbiaaDoor
namespace Go.Proofs.YtecmkjefoppbiaaDoor
open Go.RowKit BG

def rx (s : Bool) (p q : Nat) : Int := if fits p q then (if s then -(p : Int) else p) else 0
def ry (p q : Nat) : Int := if fits p q then (q : Int) else 0
def re (g : Nat → Addr) (p q : Nat) : Value := if fits p q then .nilIface else errV g 1
theorem rx_zero (s t : Bool) (q : Nat) : rx s 0 q = rx t 0 q := by unfold rx; cases s <;> cases t <;> simp
/-- Of a numerator and a denominator with their signs. -/
def qx (x y : Int) : Int := rx (decide (x < 0) != decide (y < 0)) (rn x.natAbs y.natAbs) (rd x.natAbs y.natAbs)
def qy (x y : Int) : Int := ry (rn x.natAbs y.natAbs) (rd x.natAbs y.natAbs)
def qe (g : Nat → Addr) (x y : Int) : Value := re g (rn x.natAbs y.natAbs) (rd x.natAbs y.natAbs)
def qf (x y : Int) : Bool := decide (fits (rn x.natAbs y.natAbs) (rd x.natAbs y.natAbs))
theorem q_neg {an bn ad bd : Int} : (an * bn).natAbs = an.natAbs * bn.natAbs ∧ (ad * bd).natAbs = ad.natAbs * bd.natAbs := ⟨Int.natAbs_mul _ _, Int.natAbs_mul _ _⟩
/-- The sign of a product, told by its parts: where it is 0, no sign is told. -/
theorem rx_prod {an bn ad bd : Int} (h1 : 0 < ad) (h2 : 0 < bd) : rx (decide (an < 0) != decide (bn < 0)) (rn (an.natAbs * bn.natAbs) (ad.natAbs * bd.natAbs)) (rd (an.natAbs * bn.natAbs) (ad.natAbs * bd.natAbs)) = qx (an * bn) (ad * bd) := by
  unfold qx
  rw [Int.natAbs_mul, Int.natAbs_mul]
  have hd : decide (ad * bd < 0) = false := decide_eq_false (by have := Int.mul_pos h1 h2; omega)
  rw [hd]
  by_cases z1 : an = 0
  · subst z1; rw [show (0 : Int).natAbs * bn.natAbs = 0 by simp, show rn 0 (ad.natAbs * bd.natAbs) = 0 by simp [rn]]; exact rx_zero _ _ _
  by_cases z2 : bn = 0
  · subst z2; rw [show an.natAbs * (0 : Int).natAbs = 0 by simp, show rn 0 (ad.natAbs * bd.natAbs) = 0 by simp [rn]]; exact rx_zero _ _ _
  congr 1
  rcases Int.lt_or_gt_of_ne z1 with a | a <;> rcases Int.lt_or_gt_of_ne z2 with b | b
  · have := Int.mul_pos_of_neg_of_neg a b
    rw [decide_eq_true a, decide_eq_true b, decide_eq_false (by omega)]; rfl
  · have := Int.mul_neg_of_neg_of_pos a b
    rw [decide_eq_true a, decide_eq_false (by omega), decide_eq_true this]
  · have := Int.mul_neg_of_pos_of_neg a b
    rw [decide_eq_false (by omega), decide_eq_true b, decide_eq_true this]; rfl
  · have := Int.mul_pos a b
    rw [decide_eq_false (by omega), decide_eq_false (by omega), decide_eq_false (by omega)]
end Go.Proofs.YtecmkjefoppbiaaDoor
