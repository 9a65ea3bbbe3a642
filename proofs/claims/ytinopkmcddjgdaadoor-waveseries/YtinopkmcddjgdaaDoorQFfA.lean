/-
  flat: find, with both of its closures, Lat; mercatorref2: latAt, LatOf.
-/
import Derived.Test.YtinopkmcddjgdaaDoorQFtD
import Derived.Test.YtinopkmcddjgdaaDoorQJ5
namespace Go.Proofs.YtinopkmcddjgdaaDoor
open Go.RowKit FB
attribute [local go_sem] run_store_float

/-- Is what a chain gives at most a goal? -/
def leO (o g : Option Nat) : Bool := match o, g with | some r, some x => leB r x | _, _ => false
theorem order_nan_r {x y : Nat} (h : Nan y) : Ieee.double.order x y = none := by
  obtain ⟨s, f, h⟩ := h
  unfold Ieee.Format.order
  rw [h]
  cases Ieee.double.read x <;> rfl
theorem leO_got {o g : Option Nat} {r x : Nat} (hr : Got o r) (hx : Got g x) : leB r x = leO o g := by
  cases o with
  | none =>
    show ((Ieee.double.order r x == _) || (Ieee.double.order r x == _)) = false
    rw [nan_order hr]; rfl
  | some p =>
    cases g with
    | none =>
      show ((Ieee.double.order r x == _) || (Ieee.double.order r x == _)) = false
      rw [order_nan_r hx]; rfl
    | some q =>
      obtain rfl : r = p := hr
      obtain rfl : x = q := hx
      rfl
theorem uz_sameZ {x : Nat} (hx : x < 18446744073709551616) : SameZ (uz x) x := by
  by_cases h : isZ x = true
  · have hu : uz x = 0 := by
      unfold uz
      have h' : (Ieee.double.order x 0 == some Ordering.eq) = true := h
      rw [if_pos (by simpa using h')]
    rw [hu]
    exact .inr ⟨.inl rfl, zr_of hx h⟩
  · refine .inl ?_
    unfold uz
    rw [if_neg]
    intro he
    apply h
    show (Ieee.double.order x 0 == some Ordering.eq) = true
    rw [he]; rfl
theorem leB_z {a b x : Nat} (h : SameZ a b) : leB a x = leB b x := cle_congr h (.inl rfl)
theorem leO_uz {o g : Option Nat} {r x : Nat} (hr : GW o r) (hx : Got g x) : leB (uz r) x = leO o g := by
  rw [leB_z (uz_sameZ hr.2)]; exact leO_got hr.1 hx
theorem leO_sim {o p g : Option Nat} (h : Sim o p) : leO o g = leO p g := by
  rcases h with ⟨rfl, rfl⟩ | ⟨r, q, rfl, rfl, h⟩
  · rfl
  · cases g with
    | none => rfl
    | some x => exact leB_z h
/-- The last latitude at which the test says yes. -/
def srch (t : Int → Bool) : Int := bis t 38 (-89000000000) 89000000001
theorem srch_bd (t : Int → Bool) : -89000000000 ≤ srch t ∧ srch t ≤ 89000000000 := by
  have := bis_bd t 38 (-89000000000) 89000000001 (by decide)
  unfold srch
  omega

end Go.Proofs.YtinopkmcddjgdaaDoor
