/-
  drain.rains, slices.Clone of whole numbers, drain.Way.
-/
import Derived.Test.YtlhligeicnejbaaDoorQDgA
import Derived.Test.YtlhligeicnejbaaDoorQJ12
import Derived.Test.YtlhligeicnejbaaDoorQJ13
import Derived.Test.YtlhligeicnejbaaDoorQDrT
namespace Go.Proofs.YtlhligeicnejbaaDoor
open Go.RowKit
attribute [local go_sem ↓] Go.wp_at_zero Go.wp_at_succ

/-- Can so much rain on each? -/
def rainI (x : Int) : Prop := 0 ≤ x ∧ x ≤ 1048576
instance (x : Int) : Decidable (rainI x) := by unfold rainI; exact inferInstance
def rainsB (l : List Int) : Bool := decide (∀ x ∈ l, rainI x)
theorem rain_all {l : List Int} (h : ∀ i, i < l.length → rainI (gl l i)) : ∀ x ∈ l, rainI x := by
  intro x hx
  obtain ⟨i, hi, rfl⟩ := List.getElem_of_mem hx
  rw [gl_get hi]
  exact h i hi
end Go.Proofs.YtlhligeicnejbaaDoor
