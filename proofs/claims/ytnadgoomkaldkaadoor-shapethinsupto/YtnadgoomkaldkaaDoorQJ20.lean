/-
  ShapeFaces: the law's ways.; ShapeFaces: the law where the map is right.
-/
import Derived.Test.YtnadgoomkaldkaaDoorQTk
import Derived.Test.YtnadgoomkaldkaaDoorQJ19
import Derived.Test.YtnadgoomkaldkaaDoorQSfH
import Derived.Test.YtnadgoomkaldkaaDoorQSfI
import Derived.Test.YtnadgoomkaldkaaDoorQJ21
namespace Go.Proofs.YtnadgoomkaldkaaDoor
open Go.RowKit
attribute [local go_sem ↓] Go.wp_at_zero Go.wp_at_succ

theorem coded_ev (g : Nat → Addr) (c : Nat) (hc : c ≤ 8) (w : World) (hl : Laid w g) : Calls Tryd.prog 9 #[ev g c, .int .i64 (c : Int)] w fun e w' => e = .returned (.bool true) ∧ Gr w w' := by
  by_cases h : c = 0
  · subst h
    refine (coded_nil 0 w).mono ?_
    rintro e w' ⟨rfl, rfl⟩
    exact ⟨rfl, Gr.refl _⟩
  · rw [ev_err g h]
    have := coded_5 g (c - 1) (by omega) w hl
    rw [show ((c - 1 : Nat) : Int) + 1 = (c : Int) by omega] at this
    exact this
theorem mcd_le (Ls : List (List Sp)) : mcd Ls ≤ 8 := by
  unfold mcd
  split
  · omega
  · split
    · split <;> omega
    · omega
set_option maxRecDepth 4000 in
theorem fewArcs_nil (w : World) : Calls Tryd.prog 7 #[.pointer none] w fun e w' => e = .returned (.bool false) ∧ Gr w w' := by
  go_enter Tryd.func7, Tryd.ntmps7
  go_wp2
  go_ret
  exact ⟨rfl, Gr.refl _⟩
end Go.Proofs.YtnadgoomkaldkaaDoor
namespace Go.Proofs.YtnadgoomkaldkaaDoor
open Go.RowKit
attribute [local go_sem ↓] Go.wp_at_zero Go.wp_at_succ

end Go.Proofs.YtnadgoomkaldkaaDoor
