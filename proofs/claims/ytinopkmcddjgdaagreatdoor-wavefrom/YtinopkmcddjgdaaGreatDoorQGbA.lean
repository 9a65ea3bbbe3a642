/-
  Globes: which globes are valid.
-/
import Derived.Test.YtinopkmcddjgdaaGreatDoorQJ2
import Derived.Test.YtinopkmcddjgdaaGreatDoorQWth
import Derived.Deep.RegionHeld
namespace Go.Proofs.YtinopkmcddjgdaaGreatDoor
open Go.RowKit FB
attribute [local go_sem] run_store_float

theorem ball_any (a f : Nat) (w : World) : Calls Tryz.prog 20 #[.agg #[.float .f64 a, .float .f64 f]] w fun e w' => e = .returned (.agg #[.float .f64 a, .float .f64 f]) ∧ Below w.heap.size w w' := by
  go_enter Tryz.func20, Tryz.ntmps20
  go_wp2
  exact bodyPost_ret (v := .agg #[.float .f64 a, .float .f64 f]) (by simp [results, Tryz.results20, go_sem]) rfl ⟨rfl, ((Below.refl _ _).alloc (Nat.le_refl _) _).alloc (by simp) _⟩

/-- A valid globe. -/
def okG (a f : Nat) : Bool := inB 4607182418800017408 4741671816366391296 a && inB 0 4598175219545276416 f
theorem globeError_any (a f : Nat) (w : World) : Calls Tryz.prog 22 #[.agg #[.float .f64 a, .float .f64 f]] w fun e w' => e = .returned (.int .i64 (if okG a f = true then 0 else 3)) ∧ Below w.heap.size w w' := by
  have HB := hid between_any
  unfold okG
  cases h1 : inB 4607182418800017408 4741671816366391296 a with
  | false =>
    go_enter Tryz.func22, Tryz.ntmps22
    go_wp2_with (go_at_call 23; refine (HB.out _ _ _ _).mono ?_; rintro e w' ⟨rfl, rfl⟩)
    go_ret
    exact ⟨rfl, (Below.refl _ _).alloc (Nat.le_refl _) _⟩
  | true =>
    cases h2 : inB 0 4598175219545276416 f with
    | false =>
      go_enter Tryz.func22, Tryz.ntmps22
      go_wp2_with (go_at_call 23; refine (HB.out _ _ _ _).mono ?_; rintro e w' ⟨rfl, rfl⟩)
      go_ret
      exact ⟨rfl, (Below.refl _ _).alloc (Nat.le_refl _) _⟩
    | true =>
      go_enter Tryz.func22, Tryz.ntmps22
      go_wp2_with (go_at_call 23; refine (HB.out _ _ _ _).mono ?_; rintro e w' ⟨rfl, rfl⟩)
      go_ret
      exact ⟨rfl, (Below.refl _ _).alloc (Nat.le_refl _) _⟩
end Go.Proofs.YtinopkmcddjgdaaGreatDoor
