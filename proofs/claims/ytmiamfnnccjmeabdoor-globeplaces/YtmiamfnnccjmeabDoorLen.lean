/-
  grain.Length and mercatorref1.LengthOf: the same chain of operations, also where one of them has no answer.
-/
import Derived.Test.YtmiamfnnccjmeabDoorFin
import Derived.Deep.RegionHeld
namespace Go.Proofs.YtmiamfnnccjmeabDoor
open Go.RowKit FB

/-- What an operation leaves: its answer, or a word that is no number, drawn. -/
def nb (x y : Nat) (w : World) : Nat := (Question.nanBits .f64 x y).cut (w.tape w.drawn (.nanBits .f64 x y))
def fv (o : Option Nat) (x y : Nat) (w : World) : Nat := match o with | some r => r | none => nb x y w
def dn (o : Option Nat) : Nat := match o with | some _ => 0 | none => 1
theorem run_any (op : BinOp) (x y : Nat) (hop : op = .add ∨ op = .sub ∨ op = .mul ∨ op = .quo) (w : World) :
    (binOp op 22 (.float .f64 x) (.float .f64 y)).run Tryd.prog w = .ok (.float .f64 (fv (floatBits op .f64 x y) x y w)) (w.drewN (dn (floatBits op .f64 x y))) := by
  cases h : floatBits op .f64 x y with
  | some r => exact run_float_arith w op _ _ _ _ _ h
  | none =>
    unfold floatBits at h
    rcases hop with rfl | rfl | rfl | rfl <;> simp only at h <;> (simp [binOp, Op.floatArith, h, Question.forced]; exact ⟨rfl, rfl⟩)
def fsq (x : Nat) : Option Nat := Ieee.double.sqrt x
theorem sqrt_eq (x : Nat) : Extern.MathSqrt.sqrt #[.float .f64 x] = (match FloatKind.f64.format.sqrt x with | some r => pure (.float .f64 r) | none => do pure (.float .f64 (← choose (.nanBits .f64 x x)))) := rfl
theorem run_sqrt (x : Nat) (w : World) : (callFunc 48 #[.float .f64 x]).run Tryd.prog w = .ok (.value (.float .f64 (fv (fsq x) x x w))) (w.drewN (dn (fsq x))) := by
  rw [@run_callFunc_extern Tryd.prog 48 _ Extern.MathSqrt.sqrt Tryd.func48 (by kernel_rfl) (by kernel_rfl) (by kernel_rfl) (by kernel_rfl) _ w, sqrt_eq]
  cases h : fsq x with
  | some r =>
    have h' : FloatKind.f64.format.sqrt x = some r := h
    simp [h', fv, dn]; rfl
  | none =>
    have h' : FloatKind.f64.format.sqrt x = none := h
    simp [h', Question.forced]
    exact ⟨rfl, rfl⟩

/-- A word that is what a chain gives: its answer, or no number. -/
def Got (o : Option Nat) (r : Nat) : Prop := match o with | some q => r = q | none => Nan r
theorem got_fv (o : Option Nat) (x y : Nat) (w : World) : Got o (fv o x y w) := by
  cases o with
  | some r => rfl
  | none => exact nan_cut x y _
theorem add_nan_l {x y : Nat} (h : Nan x) : Ieee.double.add x y = none := by obtain ⟨s, f, h⟩ := h; unfold Ieee.Format.add; rw [h]; rfl
theorem add_nan_r {x y : Nat} (h : Nan y) : Ieee.double.add x y = none := by
  obtain ⟨s, f, h⟩ := h; unfold Ieee.Format.add; rw [h]; cases Ieee.double.read x <;> rfl
theorem got_add {o p : Option Nat} {x y : Nat} (hx : Got o x) (hy : Got p y) (w : World) : Got (o.bind fun a => p.bind fun b => Ieee.double.add a b) (fv (floatBits .add .f64 x y) x y w) := by
  have hg := got_fv (floatBits .add .f64 x y) x y w
  cases o with
  | none =>
    have : floatBits .add .f64 x y = none := add_nan_l hx
    rw [this] at hg ⊢; exact hg
  | some a =>
    cases p with
    | none =>
      have : floatBits .add .f64 x y = none := add_nan_r hy
      rw [this] at hg ⊢; exact hg
    | some b =>
      obtain rfl : x = a := hx
      obtain rfl : y = b := hy
      exact hg
theorem got_sqrt {o : Option Nat} {x : Nat} (hx : Got o x) (w : World) : Got (o.bind fsq) (fv (fsq x) x x w) := by
  have hg := got_fv (fsq x) x x w
  cases o with
  | none =>
    obtain ⟨s, f, h⟩ : Nan x := hx
    have : fsq x = none := by unfold fsq Ieee.Format.sqrt; rw [h]; rfl
    rw [this] at hg ⊢; exact hg
  | some a => obtain rfl : x = a := hx; exact hg

theorem hmulA (x y : Nat) (w : World) : (binOp .mul 22 (.float .f64 x) (.float .f64 y)).run Tryd.prog w = .ok (.float .f64 (fv (floatBits .mul .f64 x y) x y w)) (w.drewN (dn (floatBits .mul .f64 x y))) := run_any .mul x y (by simp) w
theorem haddA (x y : Nat) (w : World) : (binOp .add 22 (.float .f64 x) (.float .f64 y)).run Tryd.prog w = .ok (.float .f64 (fv (floatBits .add .f64 x y) x y w)) (w.drewN (dn (floatBits .add .f64 x y))) := run_any .add x y (by simp) w

/-- The chain. -/
def lenO (x y z : Nat) : Option Nat :=
  ((((Ieee.double.mul x x).bind fun a => (Ieee.double.mul y y).bind fun b => Ieee.double.add a b).bind fun c => (Ieee.double.mul z z).bind fun d => Ieee.double.add c d)).bind fsq

theorem sqrt_any (x : Nat) (w : World) : Calls Tryd.prog 28 #[.float .f64 x] w fun e w' => e = .returned (.float .f64 (fv (fsq x) x x w)) ∧ w' = w.drewN (dn (fsq x)) := by
  have h := run_sqrt
  go_enter Tryd.func28, Tryd.ntmps28
  go_wp2
  go_ret
  exact ⟨rfl, rfl⟩
theorem plus_any (s a b : Nat) (w : World) : Calls Tryd.prog 40 #[.float .f64 s, .float .f64 a, .float .f64 b] w fun e w' => ∃ r, e = .returned (.float .f64 r) ∧ (∀ o, Got o s → Got (o.bind fun c => (Ieee.double.mul a b).bind fun d => Ieee.double.add c d) r) ∧ ∃ n, w' = w.drewN n := by
  have hM := hmulA
  have hA := haddA
  go_enter Tryd.func40, Tryd.ntmps40
  go_wp2
  go_ret
  exact ⟨_, rfl, fun o ho => got_add ho (got_fv _ _ _ _) _, _, rfl⟩

set_option maxHeartbeats 1000000 in
theorem length_any (x y z : Nat) (w : World) : Calls Tryd.prog 35 #[.agg #[.float .f64 x, .float .f64 y, .float .f64 z]] w fun e w' => ∃ r, e = .returned (.float .f64 r) ∧ Got (lenO x y z) r ∧ Below w.heap.size w w' := by
  have hM := hmulA
  have hA := haddA
  go_enter Tryd.func35, Tryd.ntmps35
  go_wp2_with (go_at_call 28; refine (sqrt_any _ _).mono ?_; rintro e w2 ⟨rfl, rfl⟩)
  go_ret
  refine ⟨_, rfl, ?_, ?_⟩
  · exact got_sqrt (got_add (got_add (got_fv _ _ _ _) (got_fv _ _ _ _) _) (got_fv _ _ _ _) _) _
  · exact ((Below.refl _ _).alloc (Nat.le_refl _) _).trans ⟨rfl, rfl, rfl, Nat.le_refl _, fun _ _ => rfl⟩

set_option maxHeartbeats 2000000 in
theorem lengthOf_any (x y z : Nat) (w : World) : Calls Tryd.prog 39 #[.agg #[.float .f64 x, .float .f64 y, .float .f64 z]] w fun e w' => ∃ r, e = .returned (.float .f64 r) ∧ Got (lenO x y z) r ∧ Below w.heap.size w w' := by
  have hM := hmulA
  go_enter Tryd.func39, Tryd.ntmps39
  go_wp2
  go_region_held (fun w' => w'.cell? ⟨w.heap.size, 0, none⟩ = some (.float .f64 x) ∧ w'.cell? ⟨w.heap.size, 1, none⟩ = some (.float .f64 y) ∧ w'.cell? ⟨w.heap.size, 2, none⟩ = some (.float .f64 z)) (simp [go_sem])
    (first
      | (go_at_call 40; refine (plus_any _ _ _ _).mono ?_; rintro e w' ⟨r, rfl, hr, n, rfl⟩)
      | (go_at_call 28; refine (sqrt_any _ _).mono ?_; rintro e w2 ⟨rfl, rfl⟩))
  go_wp2
  rename_i ra ha na hh
  clear hh
  go_ret
  refine ⟨_, rfl, got_sqrt (hr _ (ha _ (got_fv _ _ _ _))) _, ?_⟩
  exact ((Below.refl _ _).alloc (Nat.le_refl _) _).trans ⟨rfl, rfl, rfl, Nat.le_refl _, fun _ _ => rfl⟩
end Go.Proofs.YtmiamfnnccjmeabDoor
