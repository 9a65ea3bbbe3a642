/-
  DrainFloods, where the raster is right.
-/
import Derived.Test.YtlhligeicnejbaaDoorQDrV
import Derived.Test.YtlhligeicnejbaaDoorQDrT
import Derived.Deep.DrawnRows
namespace Go.Proofs.YtlhligeicnejbaaDoor
open Go.RowKit
attribute [local go_sem ↓] Go.wp_at_zero Go.wp_at_succ

theorem at_isl {w : World} {B : Nat} {L : List Int} (cap : Nat) (h : At w B (ir L)) : ISl w (some ⟨B, 0, none⟩) B 0 cap L := ISl.mk' (fun i hi => by rw [Nat.zero_add]; exact (h.get hi).1) h.lt
/-- Three cells, kept since w. -/
structure C3w (w W : World) (F T O k : Nat) (x y z : Value) : Prop where
  c : w.cell? ⟨F, k, none⟩ = some x ∧ w.cell? ⟨T, 1, none⟩ = some y ∧ w.cell? ⟨O, k, none⟩ = some z
  l : F < w.heap.size ∧ T < w.heap.size ∧ O < w.heap.size
  gr : Gr w W
theorem C3w.out {w W : World} {F T O k : Nat} {x y z : Value} (h : C3w w W F T O k x y z) : W.cell? ⟨F, k, none⟩ = some x ∧ W.cell? ⟨T, 1, none⟩ = some y ∧ W.cell? ⟨O, k, none⟩ = some z :=
  ⟨(h.gr.out.cell (p := ⟨F, k, none⟩) h.l.1).trans h.c.1, (h.gr.out.cell (p := ⟨T, 1, none⟩) h.l.2.1).trans h.c.2.1, (h.gr.out.cell (p := ⟨O, k, none⟩) h.l.2.2).trans h.c.2.2⟩
theorem C3w.drew {w W : World} {F T O k : Nat} {x y z : Value} (h : C3w w W F T O k x y z) : C3w w W.drew F T O k x y z := ⟨h.c, h.l, h.gr.drew⟩
theorem C3w.below {w W w' : World} {F T O k : Nat} {x y z : Value} (h : C3w w W F T O k x y z) (hB : Below W.heap.size W w') : C3w w w' F T O k x y z := ⟨h.c, h.l, Gr.step h.gr hB⟩
end Go.Proofs.YtlhligeicnejbaaDoor
