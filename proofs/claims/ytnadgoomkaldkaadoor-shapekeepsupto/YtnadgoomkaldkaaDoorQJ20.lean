/-
  ShapeFaces: the law's ways.; ShapeFaces: the law where the map is right.; ShapeThins: the law's ways, where there is an error.
-/
import Derived.Test.YtnadgoomkaldkaaDoorQTk
import Derived.Test.YtnadgoomkaldkaaDoorQJ19
import Derived.Test.YtnadgoomkaldkaaDoorQSfH
import Derived.Test.YtnadgoomkaldkaaDoorQSfI
import Derived.Test.YtnadgoomkaldkaaDoorQJ21
import Derived.Test.YtnadgoomkaldkaaDoorQJ16
namespace Go.Proofs.YtnadgoomkaldkaaDoor
open Go.RowKit
attribute [local go_sem ↓] Go.wp_at_zero Go.wp_at_succ

set_option maxRecDepth 4000 in
theorem fewArcs_nil (w : World) : Calls Tryd.prog 7 #[.pointer none] w fun e w' => e = .returned (.bool false) ∧ Gr w w' := by
  go_enter Tryd.func7, Tryd.ntmps7
  go_wp2
  go_ret
  exact ⟨rfl, Gr.refl _⟩
end Go.Proofs.YtnadgoomkaldkaaDoor
namespace Go.Proofs.YtnadgoomkaldkaaDoor
open Go.RowKit
attribute [local go_sem ↓] Go.wp_at_zero Go.wp_at_succ

end Go.Proofs.YtnadgoomkaldkaaDoor
namespace Go.Proofs.YtnadgoomkaldkaaDoor
open Go.RowKit
attribute [local go_sem ↓] Go.wp_at_zero Go.wp_at_succ

theorem LLd.nil (w : World) : LLd w none 0 0 0 [] := ⟨fun i hi => absurd hi (by simp), fun k hk => absurd hk (by simp)⟩
/-- Thin, where the map is right. -/
theorem thin_all (g : Nat → Addr) {ad : Option Addr} {b o cap : Nat} {Ls : List (List Sp)} {most : Int} (hc : mcd Ls = 0) (hm : 0 ≤ most) (w : World) (h : LLd w ad b o cap Ls) (hl : Lc w g) : Calls Tryd.prog 18 #[.agg #[.slice ad Ls.length cap], .int .i64 most] w fun e w' => ∃ ad' b' cap' Ls', e = .returned (.tuple #[.agg #[.slice ad' Ls.length cap'], .nilIface]) ∧ LLd w' ad' b' 0 cap' Ls' ∧ mcd Ls' = 0 ∧ Ls'.length = Ls.length ∧ Pth most ⟨Ls, 0, 1, false⟩ ⟨Ls', Ls.length, 1, false⟩ ∧ Gr w w' := by
  by_cases h0 : 0 < Ls.length
  · exact thin_ok g hc hm h0 w h hl
  · obtain rfl : Ls = [] := List.length_eq_zero_iff.1 (by omega)
    refine (thin_nil g hc hm w h hl).mono ?_
    rintro e w' ⟨rfl, hB⟩
    exact ⟨none, 0, 0, [], rfl, LLd.nil _, hc, rfl, .refl _, hB⟩
end Go.Proofs.YtnadgoomkaldkaaDoor
