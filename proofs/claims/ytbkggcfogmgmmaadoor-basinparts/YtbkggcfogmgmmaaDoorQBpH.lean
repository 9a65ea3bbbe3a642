/-
  BasinParts: the law.
-/
import Derived.Test.YtbkggcfogmgmmaaDoorQBpG
namespace Go.Proofs.YtbkggcfogmgmmaaDoor
open Go.RowKit

theorem basinParts_law (g : Nat → Addr) (a : Option Addr) (w : World) (hl : Laid w g) (ha : RArg w a) : Calls Tryd.prog 7 #[.pointer a] w fun e w' => e = .returned (.bool true) ∧ Gr w w' := by
  obtain ⟨s, h1, h2⟩ := small4_arg ha
  cases s with
  | false => exact parts_no g _ w hl h1
  | true =>
    obtain ⟨pb, po, W, H, sd, b, o, cap, l, rfl, hr, hc, ll⟩ := h2 rfl
    by_cases hv : vcode W H l = 0
    · obtain ⟨m, n, rfl, rfl, ok⟩ := ok_of hv
      have h0 : ¬ l.length = 0 := by
        have := Nat.mul_le_mul ok.m1 ok.n1
        rw [ok.len]
        omega
      obtain ⟨rfl, hRs⟩ := hc h0
      exact parts_B g w hl hr hRs ok ll hv
    · exact parts_A g w hl hr ll hv
end Go.Proofs.YtbkggcfogmgmmaaDoor
