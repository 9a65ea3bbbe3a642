/-
  grain.size, grain.divisor; mercatorref1.IsRight.; mercatorref1.IsRight, grain.right, grain.split.; grain.right, grain.split, grain.Floor, grain.Near.; grain.Floor, grain.Near.
-/
import Derived.Test.YtecmkjefoppbiaaDoorQJ2
import Derived.Deep.QuietTactic
import Derived.BigQuiet
import Derived.Test.YtecmkjefoppbiaaDoorQJ8
namespace Go.Proofs.YtecmkjefoppbiaaDoor
open Go.RowKit BG

theorem neg_size (n : Int) (c : n < 0) (h : -9223372036854775808 ≤ n) : IntKind.u64.wrap (-IntKind.u64.wrap n) = -n := by
  rw [IntKind.wrap_u64, IntKind.wrap_u64]; omega
theorem gcd_step' (m g : Nat) : Nat.gcd g (m % g) = Nat.gcd m g := by rw [Nat.gcd_comm g, ← Nat.gcd_rec, Nat.gcd_comm]
end Go.Proofs.YtecmkjefoppbiaaDoor
namespace Go.Proofs.YtecmkjefoppbiaaDoor
open Go.RowKit BG
attribute [local go_sem ↓] Go.wp_at_zero Go.wp_at_succ

/-- The fraction is right. -/
def Rgt (n d : Int) : Prop := (1 ≤ d ∧ d ≤ 4611686018427387904 ∧ n ≤ 4611686018427387904 ∧ -4611686018427387904 ≤ n) ∧ Nat.gcd n.natAbs d.natAbs = 1
instance (n d : Int) : Decidable (Rgt n d) := by unfold Rgt; infer_instance
theorem Rgt.sml {n d : Int} (h : Rgt n d) : Sml n := by unfold Sml; have := h.1; omega
theorem Rgt.smd {n d : Int} (h : Rgt n d) : Sml d := by unfold Sml; have := h.1; omega
theorem one_or (y : Int) : (decide (y = 1) || decide (y = -1)) = decide (y.natAbs = 1) := by
  by_cases h : y = 1
  · subst h; rfl
  · by_cases k : y = -1
    · subst k; rfl
    · rw [decide_eq_false h, decide_eq_false k, decide_eq_false (by omega)]; rfl
end Go.Proofs.YtecmkjefoppbiaaDoor
namespace Go.Proofs.YtecmkjefoppbiaaDoor
open Go.RowKit BG
attribute [local go_sem ↓] Go.wp_at_zero Go.wp_at_succ

end Go.Proofs.YtecmkjefoppbiaaDoor
namespace Go.Proofs.YtecmkjefoppbiaaDoor
open Go.RowKit BG

end Go.Proofs.YtecmkjefoppbiaaDoor
