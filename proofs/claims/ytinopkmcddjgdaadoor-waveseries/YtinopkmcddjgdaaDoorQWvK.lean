/-
  mercatorref2: OnStrip.
-/
import Derived.Test.YtinopkmcddjgdaaDoorQWvS
import Derived.Test.YtinopkmcddjgdaaDoorQWvE
import Derived.Deep.RegionLaw
namespace Go.Proofs.YtinopkmcddjgdaaDoor
open Go.RowKit FB
attribute [local go_sem] run_store_float

def Four.get (s : Four) : Nat → Option Nat
  | 0 => s.a
  | 1 => s.b
  | 2 => s.c
  | _ => s.d
/-- So many waves, one upon the other. -/
def ripK (w : Int → Option Nat → Option Nat) (z : Option Nat) (u : Int) (vO : Option Nat) (s : Four) : Nat → Option Nat
  | 0 => z
  | k + 1 => oA (ripK w z u vO s k) (oM (s.get k) (w (wr ((2 * ((k : Int) + 1)) * u)) (vkO (2 * ((k : Int) + 1)) vO)))
theorem ripK_four (w : Int → Option Nat → Option Nat) (z : Option Nat) (u : Int) (vO : Option Nat) (s : Four) : ripK w z u vO s 4 = ripO w z u vO s := rfl
theorem GF.get {s : Four} {a b c d : Nat} (h : GF s a b c d) {k : Nat} (hk : k < [a, b, c, d].length) : GW (s.get k) [a, b, c, d][k] := by
  obtain ⟨h1, h2, h3, h4⟩ := h
  match k, hk with
  | 0, _ => exact h1
  | 1, _ => exact h2
  | 2, _ => exact h3
  | 3, _ => exact h4
abbrev wV (t : Nat) (d u : Int) (v : Nat) : Value := .agg #[.float .f64 t, .int .i64 d, .int .i64 u, .float .f64 v]
abbrev wL (t : Nat) (d u : Int) (v : Nat) : List Value := [.float .f64 t, .int .i64 d, .int .i64 u, .float .f64 v]
end Go.Proofs.YtinopkmcddjgdaaDoor
