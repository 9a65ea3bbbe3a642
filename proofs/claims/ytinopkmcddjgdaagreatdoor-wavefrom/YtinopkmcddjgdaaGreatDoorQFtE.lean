/-
  flat: Valid, draws; mercatorref2: PaperError, PlaceError.
-/
import Derived.Test.YtinopkmcddjgdaaGreatDoorQFtD
namespace Go.Proofs.YtinopkmcddjgdaaGreatDoor
open Go.RowKit FB
attribute [local go_sem] run_store_float

/-- Which kind of paper. -/
def kd (k : ByteArray) : Nat := if (k.toList == [109, 101, 114, 99, 97, 116, 111, 114]) = true then 0 else if (k.toList == [101, 113, 117, 97, 108]) = true then 1 else if (k.toList == [112, 111, 108, 97, 114]) = true then 2 else 3
structure Kd (k : ByteArray) (a b c : Bool) : Prop where
  t0 : (k.toList == [109, 101, 114, 99, 97, 116, 111, 114]) = a
  t1 : (k.toList == [101, 113, 117, 97, 108]) = b
  t2 : (k.toList == [112, 111, 108, 97, 114]) = c
theorem kd_cases (k : ByteArray) : (Kd k true false false ∧ kd k = 0) ∨ (Kd k false true false ∧ kd k = 1) ∨ (Kd k false false true ∧ kd k = 2) ∨ (Kd k false false false ∧ kd k = 3) := by
  cases t0 : (k.toList == [109, 101, 114, 99, 97, 116, 111, 114]) with
  | true =>
    have e : k.toList = [109, 101, 114, 99, 97, 116, 111, 114] := by simpa using t0
    refine .inl ⟨⟨t0, by rw [e]; decide, by rw [e]; decide⟩, by unfold kd; rw [t0]; rfl⟩
  | false =>
    cases t1 : (k.toList == [101, 113, 117, 97, 108]) with
    | true =>
      have e : k.toList = [101, 113, 117, 97, 108] := by simpa using t1
      refine .inr (.inl ⟨⟨t0, t1, by rw [e]; decide⟩, by unfold kd; rw [t0, t1]; rfl⟩)
    | false =>
      cases t2 : (k.toList == [112, 111, 108, 97, 114]) with
      | true => exact .inr (.inr (.inl ⟨⟨t0, t1, t2⟩, by unfold kd; rw [t0, t1, t2]; rfl⟩))
      | false => exact .inr (.inr (.inr ⟨⟨t0, t1, t2⟩, by unfold kd; rw [t0, t1, t2]; rfl⟩))
/-- The number of a paper's error, and of a latitude's on it. -/
def pcode (a f : Nat) (k : ByteArray) (m : Nat) : Nat := if okG a f = true then (if kd k = 3 then 5 else if inB 4591870180066957722 4621819117588971520 m = true then 0 else 3) else 3
def dcode (a f : Nat) (k : ByteArray) (m : Nat) (lat : Int) : Nat := if pcode a f k m = 0 then (if 89000000000 < lat ∨ lat < -89000000000 ∨ (kd k = 2 ∧ lat < 0) then 4 else 0) else pcode a f k m

end Go.Proofs.YtinopkmcddjgdaaGreatDoor
