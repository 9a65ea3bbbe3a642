/-
  grid: within, floor, right; mercatorref2.IsBox; mercatorlaw2.coded. Rows of whole numbers.
-/
import Derived.Test.YtnadgoomkaldkaaDoorQJ1
import Derived.Test.YtnadgoomkaldkaaDoorQJ2
import Derived.WalkLawsBesides
import Derived.WalkSmall
import Derived.Outline
import Derived.LoopN
namespace Go.Proofs.YtnadgoomkaldkaaDoor
open Go.RowKit

abbrev boV (a b c d : Int) : Value := .agg #[.int .i64 a, .int .i64 b, .int .i64 c, .int .i64 d]
abbrev boL (a b c d : Int) : List Value := [.int .i64 a, .int .i64 b, .int .i64 c, .int .i64 d]
theorem At.newRow (W : World) (l : List Value) (t : Nat) : At (W.alloc (.cells l.toArray t)) W.heap.size l := by
  refine ⟨fun i hi => ?_, by simp⟩
  constructor
  · rw [World.cell?_alloc_at _ _ _ _ rfl]
    simp [hi]
  · exact World.frozen?_alloc_at _ _ _ _ rfl
theorem At.new4 (W : World) (a b c d : Value) (t : Nat) : At (W.alloc (.cells #[a, b, c, d] t)) W.heap.size [a, b, c, d] := At.newRow W [a, b, c, d] t
theorem At.c4 {W : World} {B : Nat} {a b c d : Value} (h : At W B [a, b, c, d]) : W.cell? ⟨B, 0, none⟩ = some a ∧ W.cell? ⟨B, 1, none⟩ = some b ∧ W.cell? ⟨B, 2, none⟩ = some c ∧ W.cell? ⟨B, 3, none⟩ = some d := ⟨(h.1 0 (by simp)).1, (h.1 1 (by simp)).1, (h.1 2 (by simp)).1, (h.1 3 (by simp)).1⟩

/-- Within bounds. -/
def inI (lo hi n : Int) : Bool := decide (lo ≤ n) && decide (n ≤ hi)
/-- Rounded down. -/
theorem tdiv_floor (n s : Int) (hs : 1 ≤ s) : n / s = if n.tmod s < 0 then n.tdiv s - 1 else n.tdiv s := by
  have h2 : s * (n / s) + n % s = n := by have := Int.emod_def n s; omega
  have h3 := Int.emod_nonneg n (show s ≠ 0 by omega)
  have h4 := Int.emod_lt_of_pos n (show 0 < s by omega)
  by_cases hn : 0 ≤ n
  · have h5 := Int.tmod_nonneg s hn
    rw [if_neg (by omega), Int.tdiv_eq_ediv_of_nonneg hn]
  · have h5 : n.tmod s = - ((-n).tmod s) := by rw [Int.neg_tmod]; omega
    have h6 : n.tdiv s = - ((-n).tdiv s) := by rw [Int.neg_tdiv]; omega
    rw [h5, h6, Int.tmod_eq_emod_of_nonneg (by omega), Int.tdiv_eq_ediv_of_nonneg (by omega)]
    have h7 : s * ((-n) / s) + (-n) % s = -n := by have := Int.emod_def (-n) s; omega
    have h8 := Int.emod_nonneg (-n) (show s ≠ 0 by omega)
    have h9 := Int.emod_lt_of_pos (-n) (show 0 < s by omega)
    generalize (-n) % s = r at *
    generalize (-n) / s = q at *
    generalize n % s = r' at *
    generalize n / s = q' at *
    have e : s * (q' + q) = - (r' + r) := by rw [Int.mul_add]; omega
    by_cases hr : 0 < r
    · rw [if_pos (by omega)]
      have : q' + q = -1 := by
        rcases Int.lt_trichotomy (q' + q) (-1) with h | h | h
        · exfalso
          have : s * (q' + q) ≤ s * (-2) := Int.mul_le_mul_of_nonneg_left (by omega) (by omega)
          omega
        · exact h
        · exfalso
          have : s * 0 ≤ s * (q' + q) := Int.mul_le_mul_of_nonneg_left (by omega) (by omega)
          omega
      omega
    · rw [if_neg (by omega)]
      have : q' + q = 0 := by
        rcases Int.lt_trichotomy (q' + q) 0 with h | h | h
        · exfalso
          have : s * (q' + q) ≤ s * (-1) := Int.mul_le_mul_of_nonneg_left (by omega) (by omega)
          omega
        · exact h
        · exfalso
          have : s * 1 ≤ s * (q' + q) := Int.mul_le_mul_of_nonneg_left (by omega) (by omega)
          omega
      omega
theorem tdiv_bd (n s : Int) (_hs : 1 ≤ s) : -(n.natAbs : Int) ≤ n.tdiv s ∧ n.tdiv s ≤ n.natAbs := by
  have h : (n.tdiv s).natAbs = n.natAbs / s.natAbs := Int.natAbs_tdiv n s
  have h2 : n.natAbs / s.natAbs ≤ n.natAbs := Nat.div_le_self _ _
  omega
end Go.Proofs.YtnadgoomkaldkaaDoor
