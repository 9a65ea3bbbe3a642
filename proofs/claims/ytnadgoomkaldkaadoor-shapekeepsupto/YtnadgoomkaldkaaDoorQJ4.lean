/-
  mercatorref5: PlaceIn, IsSimple.; mercatorref5: IsSimple.
-/
import Derived.Test.YtnadgoomkaldkaaDoorQSrB
namespace Go.Proofs.YtnadgoomkaldkaaDoor
open Go.RowKit
attribute [local go_sem ↓] Go.wp_at_zero Go.wp_at_succ

def ctK (l : List Sp) (s : Sp) (k : Nat) : Nat := ((eg l).take k).countP (fun e => decide (esP e s))
end Go.Proofs.YtnadgoomkaldkaaDoor
namespace Go.Proofs.YtnadgoomkaldkaaDoor
open Go.RowKit
attribute [local go_sem ↓] Go.wp_at_zero Go.wp_at_succ

/-- Two edges that a simple ring has not. -/
def bdP (l : List Sp) (k i : Nat) : Prop := cmN (sx l k) (sx l ((k + 1) % l.length)) (sx l i) (sx l ((i + 1) % l.length)) = 2 ∨ (cmN (sx l k) (sx l ((k + 1) % l.length)) (sx l i) (sx l ((i + 1) % l.length)) = 1 ∧ ¬ (k + 1 = i ∧ cmA (sx l k) (sx l ((k + 1) % l.length)) (sx l i) (sx l ((i + 1) % l.length)) = sx l ((k + 1) % l.length)) ∧ ¬ ((i + 1) % l.length = k ∧ cmA (sx l k) (sx l ((k + 1) % l.length)) (sx l i) (sx l ((i + 1) % l.length)) = sx l k))
instance (l : List Sp) (k i : Nat) : Decidable (bdP l k i) := by unfold bdP; exact inferInstance
def smP (l : List Sp) : Prop := ∀ i, i < l.length → ∀ k, k < i → ¬ bdP l k i
instance (l : List Sp) : Decidable (smP l) := by unfold smP; exact inferInstance
end Go.Proofs.YtnadgoomkaldkaaDoor
