/-
  grain.Cmp.
-/
import Derived.Test.YtdgeijglmhediaaDoorQFrE
import Derived.Test.YtdgeijglmhediaaDoorQJ3
namespace Go.Proofs.YtdgeijglmhediaaDoor
open Go.RowKit BG
attribute [local go_sem ↓] Go.wp_at_zero Go.wp_at_succ

theorem sg_ci (x y : Int) : sg (x + -y) = ci x y := by
  unfold sg ci
  by_cases h1 : x < y
  · rw [if_pos (by omega), if_pos h1]
  · rw [if_neg (by omega), if_neg h1]
    by_cases h2 : y < x
    · rw [if_neg (by omega), if_pos h2]
    · rw [if_pos (by omega), if_neg h2]
theorem s_cmp {W : World} {A B C : Nat} {h l c d a b : Value} (hL : At W C [h, l]) (hQ : At W B [c, d]) (hP : At W A [a, b]) : W.cell? ⟨C, 0, none⟩ = some h ∧ W.cell? ⟨C, 1, none⟩ = some l ∧ W.cell? ⟨B, 0, none⟩ = some c ∧ W.cell? ⟨A, 1, none⟩ = some b := ⟨hL.c2.1, hL.c2.2, hQ.c2.1, hP.c2.2⟩
end Go.Proofs.YtdgeijglmhediaaDoor
