/-
  ShapeRings: the law.
-/
import Derived.Test.YtnadgoomkaldkaaDoorQSrI
namespace Go.Proofs.YtnadgoomkaldkaaDoor
open Go.RowKit
attribute [local go_sem ↓] Go.wp_at_zero Go.wp_at_succ

theorem coded_5 (g : Nat → Addr) (i : Nat) (hi : i < 8) (w : World) (hl : Laid w g) : Calls Tryd.prog 9 #[errV g i, .int .i64 ((i : Int) + 1)] w fun e w' => e = .returned (.bool true) ∧ Gr w w' := by
  refine (coded_sent g i hi _ w hl).mono ?_
  rintro e w' ⟨rfl, hB⟩
  exact ⟨by simp, hB⟩
theorem Laid.gr {w w' : World} {a : Nat → Addr} (h : Laid w a) (hb : Gr w w') : Laid w' a := h.below hb.out
/-- What lies in memory while the law looks. -/
structure RW (w W : World) (p : Sp) (g : Nat → Addr) (ad : Option Addr) (b o cap : Nat) (l : List Sp) : Prop where
  p : At W w.heap.size (sc p)
  s : SSl W ad b o cap l
  la : Laid W g
  gr : Gr w W
theorem RW.below {w W w' : World} {p : Sp} {g : Nat → Addr} {ad : Option Addr} {b o cap : Nat} {l : List Sp} (h : RW w W p g ad b o cap l) (hB : Below W.heap.size W w') : RW w w' p g ad b o cap l := ⟨At.below hB h.p, h.s.below hB, h.la.below hB, Gr.step h.gr hB⟩
end Go.Proofs.YtnadgoomkaldkaaDoor
