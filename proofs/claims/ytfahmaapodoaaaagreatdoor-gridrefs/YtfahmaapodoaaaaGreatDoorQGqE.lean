/-
  mercatorref2: RefError, digits.
-/
import Derived.Test.YtfahmaapodoaaaaGreatDoorQGqB
namespace Go.Proofs.YtfahmaapodoaaaaGreatDoor
open Go.RowKit GQ

theorem refError_ok (z : Int) (b : Bool) (x y : Int) (h : okRef z x y) (w : World) : Calls Tryz.prog 23 #[rfV z b x y] w fun e w' => e = .returned (.int .i64 0) ∧ Gr w w' := by
  obtain ⟨⟨z1, z2⟩, ⟨x1, x2⟩, y1, y2⟩ := h
  go_enter Tryz.func23, Tryz.ntmps23
  go_wp2
  all_goals (first | (exfalso; omega) | skip)
  go_ret
  exact ⟨rfl, (Gr.refl _).alloc _⟩
theorem refError_no (z : Int) (b : Bool) (x y : Int) (h : ¬ okRef z x y) (w : World) : Calls Tryz.prog 23 #[rfV z b x y] w fun e w' => e = .returned (.int .i64 4) ∧ Gr w w' := by
  have HN := hidb h
  clear h
  by_cases hy : y ≤ 9999999
  · go_enter Tryz.func23, Tryz.ntmps23
    go_wp2
    all_goals first
      | (exfalso; refine HN.out ?_; unfold okRef; omega)
      | (go_ret; exact ⟨rfl, (Gr.refl _).alloc _⟩)
  · clear HN
    go_enter Tryz.func23, Tryz.ntmps23
    go_wp2
    all_goals (go_ret; exact ⟨rfl, (Gr.refl _).alloc _⟩)
end Go.Proofs.YtfahmaapodoaaaaGreatDoor
