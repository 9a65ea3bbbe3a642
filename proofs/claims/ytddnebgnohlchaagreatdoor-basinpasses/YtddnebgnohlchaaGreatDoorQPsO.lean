/-
  BasinPasses: the law.
-/
import Derived.Test.YtddnebgnohlchaaGreatDoorQPsN
namespace Go.Proofs.YtddnebgnohlchaaGreatDoor
open Go.RowKit

theorem basinPasses_law (g : Nat → Addr) (a : Option Addr) (lv : Int) (w : World) (hl : Laid w g) (ha : RArg w a) : Calls Tryz.prog 3 #[.pointer a, .int .i64 lv] w fun e w' => e = .returned (.bool true) ∧ Gr w w' := by
  obtain ⟨s, h1, h2⟩ := small4_arg ha
  cases s with
  | false => exact passesL_no g _ _ w hl h1
  | true =>
    obtain ⟨pb, po, W, H, sd, b, o, cap, l, rfl, hr, hc, ll⟩ := h2 rfl
    by_cases hv : vcode W H l = 0
    · obtain ⟨m, n, rfl, rfl, ok⟩ := ok_of hv
      have hN := Nat.mul_le_mul ok.m1 ok.n1
      have h0 : ¬ l.length = 0 := by rw [ok.len]; omega
      obtain ⟨rfl, hRs⟩ := hc h0
      exact passesL_B g lv w hl hr hRs ok ll hv
    · exact passesL_A g lv w hl hr ll hv
end Go.Proofs.YtddnebgnohlchaaGreatDoor
