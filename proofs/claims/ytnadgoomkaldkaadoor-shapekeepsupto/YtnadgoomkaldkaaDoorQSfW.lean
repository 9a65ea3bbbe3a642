/-
  mercatorref5.NextOf.
-/
import Derived.Test.YtnadgoomkaldkaaDoorQJ6
import Derived.Lib.MinMax
namespace Go.Proofs.YtnadgoomkaldkaaDoor
open Go.RowKit
attribute [local go_sem ↓] Go.wp_at_zero Go.wp_at_succ

/-- A way as it is told, and 0 for none. -/
def bsI : Option Nat → Int
  | none => 0
  | some b => tdI b
/-- What lies in memory while the reference looks for the next way. -/
structure NO (w W : World) (A F D : Nat) (p f d : Sp) : Prop where
  a : At W A [.int .i64 p.1, .int .i64 p.2]
  f : At W F [.int .i64 f.1, .int .i64 f.2]
  d : At W D [.int .i64 d.1, .int .i64 d.2]
  g : Gr w W
  lo : w.heap.size ≤ D
  ne : A ≠ D ∧ F ≠ D
theorem NO.below {w W w' : World} {A F D : Nat} {p f d : Sp} (h : NO w W A F D p f d) (hB : Below W.heap.size W w') : NO w w' A F D p f d := ⟨At.below hB h.a, At.below hB h.f, At.below hB h.d, Gr.step h.g hB, h.lo, h.ne⟩
theorem NO.gr {w W w' : World} {A F D : Nat} {p f d : Sp} (h : NO w W A F D p f d) (hB : Gr W w') : NO w w' A F D p f d := h.below hB.out
theorem NO.put {w W : World} {A F D : Nat} {p f d : Sp} (h : NO w W A F D p f d) (x : Sp) : NO w ((W.setCell ⟨D, 0, none⟩ (.int .i64 x.1)).setCell ⟨D, 1, none⟩ (.int .i64 x.2)) A F D p f x :=
  ⟨(h.a.skip h.ne.1.symm _ _).skip h.ne.1.symm _ _, (h.f.skip h.ne.2.symm _ _).skip h.ne.2.symm _ _, At.fill2 (h.d.has rfl) _ _, (h.g.set h.lo _ _).set h.lo _ _, h.lo, h.ne⟩
def DO (w W : World) (Ls : List (List Sp)) (u A F D : Nat) (p r : Sp) (q : Nat) : Prop := ∃ d, NO w W A F D p (dfS p r) d ∧ okD d ∧ ∀ b, nrF Ls u q = some b → d = drW Ls u b
end Go.Proofs.YtnadgoomkaldkaaDoor
