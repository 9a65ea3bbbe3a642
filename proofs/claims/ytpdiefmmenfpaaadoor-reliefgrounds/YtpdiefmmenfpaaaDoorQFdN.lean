/-
  field.side, scaled, reached, around; mercatorref3.Down.
-/
import Derived.Test.YtpdiefmmenfpaaaDoorQJ2
namespace Go.Proofs.YtpdiefmmenfpaaaDoor
open Go.RowKit

def scode (W H : Int) (l : List Int) (n : Int) : Nat := if vcode W H l = 0 then (if inI 1 128 n then 0 else 3) else vcode W H l
def hcode (W H : Int) (l : List Int) (n : Int) : Nat := if vcode W H l = 0 then (if inI 0 128 n then 0 else 3) else vcode W H l
/-- Over a number above 0, rounded down. -/
theorem down_eq (a b : Int) (hb : 1 ≤ b) (ha : a < 0) : (-a + b - 1).tdiv b = -(a / b) := by
  rw [Int.tdiv_eq_ediv_of_nonneg (by omega)]
  have h2 : b * (a / b) + a % b = a := by have := Int.emod_def a b; omega
  have h3 := Int.emod_nonneg a (show b ≠ 0 by omega)
  have h4 := Int.emod_lt_of_pos a (show 0 < b by omega)
  have h5 : -a + b - 1 = (b - 1 - a % b) + b * (-(a / b)) := by rw [Int.mul_neg]; omega
  rw [h5, Int.add_mul_ediv_left _ _ (by omega), Int.ediv_eq_zero_of_lt (by omega) (by omega)]
  omega
theorem down_any (a b : Int) (hb : 1 ≤ b) (hb2 : b ≤ 20000) (ha : -1099511627776 ≤ a) (ha2 : a ≤ 1099511627776) (w : World) : Calls Tryd.prog 15 #[.int .i64 a, .int .i64 b] w fun e w' => e = .returned (.int .i64 (a / b)) ∧ w' = w := by
  have e0 : ¬ b = 0 := by omega
  by_cases h : 0 ≤ a
  · have q1 : 0 ≤ a / b := Int.ediv_nonneg h (by omega)
    have q2 : a / b ≤ a := Int.ediv_le_self b h
    have e1 : a.tdiv b = a / b := Int.tdiv_eq_ediv_of_nonneg h
    have e2 : IntKind.i64.wrap (a / b) = a / b := wrap_in (by omega) (by omega)
    clear hb hb2 ha ha2 q1 q2
    go_enter Tryd.func15, Tryd.ntmps15
    go_wp2
    go_ret
    exact ⟨by first | rfl | simp [e1, e2], rfl⟩
  · have h4 : b * (a / b) + a % b = a := by have := Int.emod_def a b; omega
    have h5 := Int.emod_nonneg a (show b ≠ 0 by omega)
    have h6 := Int.emod_lt_of_pos a (show 0 < b by omega)
    have q1 : a / b < 0 := Int.ediv_neg_of_neg_of_pos (by omega) (by omega)
    have q2 : a ≤ a / b := by
      have := Int.le_ediv_iff_mul_le (c := b) (a := a) (b := a) (by omega)
      refine this.2 ?_
      have h7 : a * b ≤ a * 1 := Int.mul_le_mul_of_nonpos_left (by omega) hb
      omega
    have e1 := down_eq a b hb (by omega)
    have e2 : IntKind.i64.wrap (-a) = -a := wrap_in (by omega) (by omega)
    have e3 : IntKind.i64.wrap (-a + b) = -a + b := wrap_in (by omega) (by omega)
    have e4 : IntKind.i64.wrap (-a + b - 1) = -a + b - 1 := wrap_in (by omega) (by omega)
    have e5 : IntKind.i64.wrap (-(a / b)) = -(a / b) := wrap_in (by omega) (by omega)
    have e7 : IntKind.i64.wrap (a / b) = a / b := wrap_in (by omega) (by omega)
    have E7 := hidb e7
    clear e7
    clear hb hb2 ha ha2 h4 h5 h6 q1 q2
    go_enter Tryd.func15, Tryd.ntmps15
    go_wp2
    go_ret
    exact ⟨by simp; exact (Go.IntWalk.i64_left _).symm.trans E7.out, rfl⟩
end Go.Proofs.YtpdiefmmenfpaaaDoor
