/-
  grid: within, floor, right; mercatorref2.IsBox; mercatorlaw2.coded. Rows of whole numbers.
-/
import Derived.Test.YtnadgoomkaldkaaDoorQJ1
import Derived.Test.YtnadgoomkaldkaaDoorQJ2
import Derived.WalkLawsBesides
import Derived.WalkSmall
import Derived.Outline
import Derived.LoopN
namespace Go.Proofs.YtnadgoomkaldkaaDoor
open Go.RowKit

abbrev boV (a b c d : Int) : Value := .agg #[.int .i64 a, .int .i64 b, .int .i64 c, .int .i64 d]
abbrev boL (a b c d : Int) : List Value := [.int .i64 a, .int .i64 b, .int .i64 c, .int .i64 d]
theorem At.newRow (W : World) (l : List Value) (t : Nat) : At (W.alloc (.cells l.toArray t)) W.heap.size l := by
  refine ⟨fun i hi => ?_, by simp⟩
  constructor
  · rw [World.cell?_alloc_at _ _ _ _ rfl]
    simp [hi]
  · exact World.frozen?_alloc_at _ _ _ _ rfl
theorem At.new4 (W : World) (a b c d : Value) (t : Nat) : At (W.alloc (.cells #[a, b, c, d] t)) W.heap.size [a, b, c, d] := At.newRow W [a, b, c, d] t
theorem At.c4 {W : World} {B : Nat} {a b c d : Value} (h : At W B [a, b, c, d]) : W.cell? ⟨B, 0, none⟩ = some a ∧ W.cell? ⟨B, 1, none⟩ = some b ∧ W.cell? ⟨B, 2, none⟩ = some c ∧ W.cell? ⟨B, 3, none⟩ = some d := ⟨(h.1 0 (by simp)).1, (h.1 1 (by simp)).1, (h.1 2 (by simp)).1, (h.1 3 (by simp)).1⟩

/-- Within bounds. -/
def inI (lo hi n : Int) : Bool := decide (lo ≤ n) && decide (n ≤ hi)
end Go.Proofs.YtnadgoomkaldkaaDoor
