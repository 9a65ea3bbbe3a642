/-
  DrainStreams: the law.
-/
import Derived.Test.YtlhligeicnejbaaDoorQDsK
namespace Go.Proofs.YtlhligeicnejbaaDoor
open Go.RowKit

theorem drainStreams_law (g : Nat → Addr) (a : Option Addr) (q : Int) (w : World) (hl : Laid w g) (ha : RArg w a) : Calls Tryd.prog 3 #[.pointer a, .int .i64 q] w fun e w' => e = .returned (.bool true) ∧ Gr w w' := by
  obtain ⟨s, h1, h2⟩ := small4_arg ha
  cases s with
  | false => exact dstreams_no g _ _ w hl h1
  | true =>
    obtain ⟨pb, po, W, H, sd, b, o, cap, l, rfl, hr, hc, ll⟩ := h2 rfl
    by_cases hv : vcode W H l = 0
    · obtain ⟨m, n, rfl, rfl, ok⟩ := ok_of hv
      have h0 : ¬ l.length = 0 := by
        have := Nat.mul_le_mul ok.m1 ok.n1
        rw [ok.len]
        omega
      obtain ⟨rfl, hRs⟩ := hc h0
      by_cases hq : 1 ≤ q
      · exact dstreams_C g q hq w hl hr hRs ok ll hv
      · exact dstreams_B g q hq w hl hr hRs ok ll hv
    · exact dstreams_A g q w hl hr ll hv
end Go.Proofs.YtlhligeicnejbaaDoor
