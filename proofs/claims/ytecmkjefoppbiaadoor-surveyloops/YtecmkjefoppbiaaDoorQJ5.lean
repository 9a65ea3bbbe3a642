/-
  grain.Cmp.; grain.bounded, grain.Make.; grain.Make.; mercatorref1.Reduced.
-/
import Derived.Test.YtecmkjefoppbiaaDoorQFrE
import Derived.Test.YtecmkjefoppbiaaDoorQJ3
namespace Go.Proofs.YtecmkjefoppbiaaDoor
open Go.RowKit BG
attribute [local go_sem ↓] Go.wp_at_zero Go.wp_at_succ

theorem sg_ci (x y : Int) : sg (x + -y) = ci x y := by
  unfold sg ci
  by_cases h1 : x < y
  · rw [if_pos (by omega), if_pos h1]
  · rw [if_neg (by omega), if_neg h1]
    by_cases h2 : y < x
    · rw [if_neg (by omega), if_pos h2]
    · rw [if_pos (by omega), if_neg h2]
theorem s_cmp {W : World} {A B C : Nat} {h l c d a b : Value} (hL : At W C [h, l]) (hQ : At W B [c, d]) (hP : At W A [a, b]) : W.cell? ⟨C, 0, none⟩ = some h ∧ W.cell? ⟨C, 1, none⟩ = some l ∧ W.cell? ⟨B, 0, none⟩ = some c ∧ W.cell? ⟨A, 1, none⟩ = some b := ⟨hL.c2.1, hL.c2.2, hQ.c2.1, hP.c2.2⟩
end Go.Proofs.YtecmkjefoppbiaaDoor
namespace Go.Proofs.YtecmkjefoppbiaaDoor
open Go.RowKit BG
attribute [local go_sem ↓] Go.wp_at_zero Go.wp_at_succ

/-- A fraction, its sign told apart. -/
abbrev frV (s : Bool) (p q : Nat) : Value := .agg #[.int .i64 (if s then -(p : Int) else p), .int .i64 q]
abbrev fr0 : Value := .agg #[.int .i64 0, .int .i64 0]
theorem hi2_small {p : Nat} (h : p ≤ 4611686018427387904) : hi2 (p : Int) = 0 ∧ lo2 (p : Int) = p := by unfold hi2 lo2; omega
theorem wide_big {p : Nat} (hp : p < 340282366920938463463374607431768211456) (h : ¬ p ≤ 4611686018427387904) : ¬ hi2 (p : Int) = 0 ∨ hi2 (p : Int) = 0 ∧ (4611686018427387904 : Int) < lo2 (p : Int) := by unfold hi2 lo2; omega
theorem keep2 {W : World} {b c : Nat} {u x y : Value} (h : W.cell? ⟨b, 0, none⟩ = some u) (hc : ¬ c = b) : ((W.setCell ⟨c, 0, none⟩ x).setCell ⟨c, 1, none⟩ y).cell? ⟨b, 0, none⟩ = some u := by
  have hc' : ¬ b = c := fun e => hc e.symm
  simp [go_sem, h]
end Go.Proofs.YtecmkjefoppbiaaDoor
namespace Go.Proofs.YtecmkjefoppbiaaDoor
open Go.RowKit BG
attribute [local go_sem ↓] Go.wp_at_zero Go.wp_at_succ

/-- The two parts fit. -/
def fits (p q : Nat) : Prop := p ≤ 4611686018427387904 ∧ q ≤ 4611686018427387904
instance (p q : Nat) : Decidable (fits p q) := by unfold fits; infer_instance
theorem w2_word {p : Nat} (h : p < 18446744073709551616) : W2 (p : Int) = .agg #[.int .u64 0, .int .u64 (IntKind.u64.wrap (p : Int))] := by
  have e1 : hi2 (p : Int) = 0 := by unfold hi2; omega
  have e2 : lo2 (p : Int) = p := by unfold lo2; omega
  have e3 : IntKind.u64.wrap (p : Int) = p := by rw [IntKind.wrap_u64]; omega
  unfold W2
  rw [e1, e2, e3]
end Go.Proofs.YtecmkjefoppbiaaDoor
namespace Go.Proofs.YtecmkjefoppbiaaDoor
open Go.RowKit BG
attribute [local go_sem ↓] Go.wp_at_zero Go.wp_at_succ

theorem M_lid : 4611686018427387904 ≤ 2 * lid := by decide +kernel
theorem cm_gt {m n : Nat} (h : n < m) : 0 < cm m n := by unfold cm; rw [if_neg (by omega), if_pos h]; decide
theorem cm_le {m n : Nat} (h : m ≤ n) : ¬ 0 < cm m n := by unfold cm; split <;> (try split) <;> omega
end Go.Proofs.YtecmkjefoppbiaaDoor
