/-
  grid: Valid of a reference, Square, In.
-/
import Derived.Test.YtfahmaapodoaaaaGreatDoorQGqA
namespace Go.Proofs.YtfahmaapodoaaaaGreatDoor
open Go.RowKit GQ

abbrev rfV (z : Int) (b : Bool) (x y : Int) : Value := .agg #[.int .i64 z, .bool b, .int .i64 x, .int .i64 y]
/-- A reference that is one. -/
def okRef (z x y : Int) : Prop := (1 ≤ z ∧ z ≤ 60) ∧ (0 ≤ x ∧ x ≤ 999999) ∧ 0 ≤ y ∧ y ≤ 9999999
theorem valid_ok (z : Int) (b : Bool) (x y : Int) (h : okRef z x y) (w : World) : Calls Tryz.prog 12 #[rfV z b x y] w fun e w' => e = .returned .nilIface ∧ Gr w w' := by
  obtain ⟨⟨z1, z2⟩, ⟨x1, x2⟩, y1, y2⟩ := h
  go_enter Tryz.func12, Tryz.ntmps12
  go_wp2
  all_goals (first | (exfalso; omega) | skip)
  go_ret
  exact ⟨rfl, (Gr.refl _).alloc _⟩
theorem valid_no (z : Int) (b : Bool) (x y : Int) (h : ¬ okRef z x y) (w : World) (hs : SqL w) : Calls Tryz.prog 12 #[rfV z b x y] w fun e w' => (∃ p, e = .returned (.iface 141 (.pointer p))) ∧ Gr w w' := by
  have HN := hidb h
  obtain ⟨p, hp⟩ := hs.rng
  have hb := lt_of_cell hp
  have hc : ∀ o, (w.alloc o).cell? ⟨0, 0, none⟩ = some (.iface 141 (.pointer p)) := fun o => cell_grw hp ((Gr.refl _).alloc _)
  clear h hs hb hp
  go_enter Tryz.func12, Tryz.ntmps12
  go_wp2
  all_goals first
    | (go_ret; exact ⟨⟨p, rfl⟩, (Gr.refl _).alloc _⟩)
    | (exfalso; refine HN.out ?_; unfold okRef; omega)
end Go.Proofs.YtfahmaapodoaaaaGreatDoor
