/-
  Vectors of places: unsigned, sameVec; Globe.Vec and mercatorref2.VecOf.
-/
import Derived.Test.YtinopkmcddjgdaaGreatDoorQGpZ
namespace Go.Proofs.YtinopkmcddjgdaaGreatDoor
open Go.RowKit FB
attribute [local go_sem] run_store_float

theorem mul_nan_l {x y : Nat} (h : Nan x) : Ieee.double.mul x y = none := by obtain ⟨s, f, h⟩ := h; unfold Ieee.Format.mul; rw [h]; rfl
theorem mul_nan_r {x y : Nat} (h : Nan y) : Ieee.double.mul x y = none := by
  obtain ⟨s, f, h⟩ := h; unfold Ieee.Format.mul; rw [h]; cases Ieee.double.read x <;> rfl
theorem sub_nan_l {x y : Nat} (h : Nan x) : Ieee.double.sub x y = none := by obtain ⟨s, f, h⟩ := h; unfold Ieee.Format.sub; rw [h]; rfl
theorem sub_nan_r {x y : Nat} (h : Nan y) : Ieee.double.sub x y = none := by
  obtain ⟨s, f, h⟩ := h; unfold Ieee.Format.sub; rw [h]; cases Ieee.double.read x <;> rfl
theorem got_mul {o p : Option Nat} {x y : Nat} (hx : Got o x) (hy : Got p y) (w : World) : Got (o.bind fun a => p.bind fun b => Ieee.double.mul a b) (fv (floatBits .mul .f64 x y) x y w) := by
  have hg := got_fv (floatBits .mul .f64 x y) x y w
  cases o with
  | none =>
    have : floatBits .mul .f64 x y = none := mul_nan_l hx
    rw [this] at hg ⊢; exact hg
  | some a =>
    cases p with
    | none =>
      have : floatBits .mul .f64 x y = none := mul_nan_r hy
      rw [this] at hg ⊢; exact hg
    | some b =>
      obtain rfl : x = a := hx
      obtain rfl : y = b := hy
      exact hg
theorem got_sub {o p : Option Nat} {x y : Nat} (hx : Got o x) (hy : Got p y) (w : World) : Got (o.bind fun a => p.bind fun b => Ieee.double.sub a b) (fv (floatBits .sub .f64 x y) x y w) := by
  have hg := got_fv (floatBits .sub .f64 x y) x y w
  cases o with
  | none =>
    have : floatBits .sub .f64 x y = none := sub_nan_l hx
    rw [this] at hg ⊢; exact hg
  | some a =>
    cases p with
    | none =>
      have : floatBits .sub .f64 x y = none := sub_nan_r hy
      rw [this] at hg ⊢; exact hg
    | some b =>
      obtain rfl : x = a := hx
      obtain rfl : y = b := hy
      exact hg
theorem hsubA (x y : Nat) (w : World) : (binOp .sub 22 (.float .f64 x) (.float .f64 y)).run Tryz.prog w = .ok (.float .f64 (fv (floatBits .sub .f64 x y) x y w)) (w.drewN (dn (floatBits .sub .f64 x y))) := run_any .sub x y (by simp) w

/-- SameBits says yes. -/
def SB (x y : Nat) : Prop := ∀ w : World, Calls Tryz.prog 16 #[.float .f64 x, .float .f64 y] w fun e w' => e = .returned (.bool true) ∧ w' = w
theorem SB.zero : SB 0 0 := fun w => same_num 0 0 zero_num (by decide +kernel) w
/-- The error of a number: nil, of the shape, of the range. -/
def evOf (g : Nat → Addr) (c : Nat) : Value := if c = 0 then .nilIface else errV g (c - 1)
theorem coded_at (g : Nat → Addr) (c : Nat) (hc : c = 0 ∨ c = 3 ∨ c = 4) (w : World) (hl : Laid w g) : Calls Tryz.prog 6 #[evOf g c, .int .i64 c] w fun e w' => e = .returned (.bool true) ∧ Below w.heap.size w w' := by
  unfold evOf
  rcases hc with rfl | rfl | rfl
  · refine (coded_nil 0 w).mono ?_
    rintro e w' ⟨rfl, rfl⟩
    exact ⟨rfl, Below.refl _ _⟩
  · refine (coded_sent g 2 (by decide) 3 w hl).mono ?_
    rintro e w' ⟨rfl, hB⟩
    exact ⟨rfl, hB⟩
  · refine (coded_sent g 3 (by decide) 4 w hl).mono ?_
    rintro e w' ⟨rfl, hB⟩
    exact ⟨rfl, hB⟩
/-- One less the square of the eccentricity. -/
def e1Of (f : Nat) : Nat := FS 4607182418800017408 (eOf f)
theorem e1_eq {f : Nat} (hf : Le 1021 f) : Ieee.double.sub 4607182418800017408 (eOf f) = some (e1Of f) :=
  sub_num (one_le.num (by decide) (by decide)) ((e_le hf).num (by decide) (by decide))
/-- The chains of a place's vector. -/
def outO (a f : Nat) (n : Int) (h c : Nat) : Option Nat := (((crO a f (sinV (nrm n))).bind fun r => (some h).bind fun b => Ieee.double.add r b)).bind fun u => (some c).bind fun b => Ieee.double.mul u b
def upO (a f : Nat) (n : Int) (h s : Nat) : Option Nat := ((((crO a f (sinV (nrm n))).bind fun r => (some (e1Of f)).bind fun b => Ieee.double.mul r b)).bind fun u => (some h).bind fun b => Ieee.double.add u b).bind fun u => (some s).bind fun b => Ieee.double.mul u b
def byO (o : Option Nat) (c : Nat) : Option Nat := o.bind fun u => (some c).bind fun b => Ieee.double.mul u b
theorem byO_sim {o p : Option Nat} {c c' : Nat} (h : Sim o p) (hc : SameZ c c') : Sim (byO o c) (byO p c') := sim_bind_mul h hc
end Go.Proofs.YtinopkmcddjgdaaGreatDoor
