/-
  shape.ring, mercatorref5.RingError, shape.piece.eastOf, shape.Area.
-/
import Derived.Test.YtnadgoomkaldkaaDoorQShC
namespace Go.Proofs.YtnadgoomkaldkaaDoor
open Go.RowKit
attribute [local go_sem ↓] Go.wp_at_zero Go.wp_at_succ

/-- The point behind the i-th one, in a ring of n points. -/
def nx (n i : Nat) : Nat := if i + 1 = n then 0 else i + 1
/-- The first k points are right for the reference. -/
def rek (l : List Sp) (k : Nat) : Prop := ∀ i, i < k → okS (sx l i) ∧ ¬ sx l i = sx l (nx l.length i)
theorem rek_rg {l : List Sp} (h3 : 3 ≤ l.length) : rek l l.length ↔ rgP l := by
  constructor
  · intro h
    refine ⟨h3, fun i hi => ⟨(h i hi).1, fun h0 e => ?_⟩, fun e => ?_⟩
    · have := (h (i - 1) (by omega)).2
      unfold nx at this
      rw [if_neg (by omega), show i - 1 + 1 = i by omega] at this
      exact this e.symm
    · have := (h (l.length - 1) (by omega)).2
      unfold nx at this
      rw [if_pos (by omega)] at this
      exact this e.symm
  · rintro ⟨_, h1, h2⟩ i hi
    refine ⟨(h1 i hi).1, fun e => ?_⟩
    unfold nx at e
    split at e
    · rename_i c
      exact h2 (by rw [← e]; congr 1; omega)
    · have := (h1 (i + 1) (by omega)).2 (by omega)
      rw [Nat.add_sub_cancel] at this
      exact this e.symm
end Go.Proofs.YtnadgoomkaldkaaDoor
