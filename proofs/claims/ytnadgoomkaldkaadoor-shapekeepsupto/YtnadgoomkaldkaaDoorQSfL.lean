/-
  mercatorref5.WayEnds.
-/
import Derived.Test.YtnadgoomkaldkaaDoorQTk
import Derived.Test.YtnadgoomkaldkaaDoorQJ8
import Derived.Test.YtnadgoomkaldkaaDoorQSfG
namespace Go.Proofs.YtnadgoomkaldkaaDoor
open Go.RowKit
attribute [local go_sem ↓] Go.wp_at_zero Go.wp_at_succ

/-- Where a way ends. -/
def wyE (Ls : List (List Sp)) (k : Nat) : Sp := if k % 2 = 0 then sx (lx Ls (k / 2)) ((lx Ls (k / 2)).length - 1) else sx (lx Ls (k / 2)) 0
structure B3 (w W : World) (A B C : Nat) (p q r : Sp) : Prop where
  a : At W A [.int .i64 p.1, .int .i64 p.2]
  b : At W B [.int .i64 q.1, .int .i64 q.2]
  c : At W C [.int .i64 r.1, .int .i64 r.2]
  g : Gr w W
  lo : w.heap.size ≤ A ∧ w.heap.size ≤ B ∧ w.heap.size ≤ C
  ne : A ≠ B ∧ A ≠ C ∧ B ≠ C
theorem B3.new (w : World) (x y z : Value) (t : Nat) (hx : x = .int .i64 0) (hy : y = .int .i64 0) (hz : z = .int .i64 0) : B3 w (((w.alloc (.cells #[x, x] t)).alloc (.cells #[y, y] t)).alloc (.cells #[z, z] t)) w.heap.size (w.heap.size + 1) (w.heap.size + 1 + 1) (0, 0) (0, 0) (0, 0) := by
  subst hx; subst hy; subst hz
  exact ⟨((At.new2 _ _ _ _).alloc _).alloc _, (At.nx2 _ _ _ _).alloc _, At.ny2 _ _ _ _ _, (((Gr.refl w).alloc _).alloc _).alloc _, by omega, by omega⟩
theorem B3.drew {w W : World} {A B C : Nat} {p q r : Sp} (h : B3 w W A B C p q r) : B3 w W.drew A B C p q r := ⟨h.a.drew, h.b.drew, h.c.drew, h.g.drew, h.lo, h.ne⟩
end Go.Proofs.YtnadgoomkaldkaaDoor
