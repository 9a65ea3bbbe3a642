/-
  Chains that are the same but for a nothing's sign, once more. No Go text is named here.
-/
import Derived.Test.YtinopkmcddjgdaaGreatDoorQFtG
namespace Go.Proofs.YtinopkmcddjgdaaGreatDoor
open Go.RowKit FB

/-- What both give is the same but for a nothing's sign. -/
theorem uzO_sim {o : Option Nat} (h : ∀ r, o = some r → r < 18446744073709551616) : Sim (uzO o) o := by
  cases o with
  | none => exact .inl ⟨rfl, rfl⟩
  | some r =>
    refine .inr ⟨uz r, r, rfl, rfl, ?_⟩
    by_cases hz : isZ r = true
    · have hu : uz r = 0 := by
        unfold uz
        have h' : (Ieee.double.order r 0 == some Ordering.eq) = true := hz
        rw [if_pos (by simpa using h')]
      exact .inr ⟨.inl hu, zr_of (h r rfl) hz⟩
    · refine .inl ?_
      unfold uz
      rw [if_neg]
      intro he
      apply hz
      show (Ieee.double.order r 0 == some Ordering.eq) = true
      rw [he]; rfl
theorem oD_lt {o p : Option Nat} {r : Nat} (h : oD o p = some r) : r < 18446744073709551616 := by
  unfold oD at h
  cases o with
  | none => cases h
  | some a =>
    cases p with
    | none => cases h
    | some b => exact div_lt h
theorem oN_sim {o p : Option Nat} (h : Sim o p) : Sim (oN o) (oN p) := by
  rcases h with ⟨rfl, rfl⟩ | ⟨r, q, rfl, rfl, h⟩
  · exact .inl ⟨rfl, rfl⟩
  · refine .inr ⟨_, _, rfl, rfl, ?_⟩
    rcases h with rfl | ⟨rfl | rfl, rfl | rfl⟩
    · exact .inl rfl
    all_goals exact .inr ⟨by decide +kernel, by decide +kernel⟩
end Go.Proofs.YtinopkmcddjgdaaGreatDoor
