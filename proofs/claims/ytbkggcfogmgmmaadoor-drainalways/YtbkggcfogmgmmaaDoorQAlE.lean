/-
  DrainAlways: the law.
-/
import Derived.Test.YtbkggcfogmgmmaaDoorQAlD
namespace Go.Proofs.YtbkggcfogmgmmaaDoor
open Go.RowKit

theorem drainAlways_law (g : Nat → Addr) (a : Option Addr) (v : Value) (w : World) (hl : Lai w g) (ha : RArg w a) (hv0 : IArg w v) : Calls Tryd.prog 6 #[.pointer a, v] w fun e w' => e = .returned (.bool true) ∧ Gr w w' := by
  obtain ⟨s, h1, h2⟩ := small4_arg ha
  obtain ⟨ra, rb, ro, rcap, r, rfl, hI, hI2⟩ := hv0
  cases s with
  | false => exact always_no g _ _ w hl h1
  | true =>
    obtain ⟨pb, po, W, H, sd, b, o, cap, l, rfl, hr, hc, ll⟩ := h2 rfl
    by_cases hv : vcode W H l = 0 ∧ r.length = l.length
    · obtain ⟨hv, hrl⟩ := hv
      obtain ⟨m, n, rfl, rfl, ok⟩ := ok_of hv
      have hN := Nat.mul_le_mul ok.m1 ok.n1
      have h0 : ¬ l.length = 0 := by rw [ok.len]; omega
      obtain ⟨rfl, hRs⟩ := hc h0
      obtain ⟨rfl, hRr⟩ := hI2 (by rw [hrl]; exact h0)
      exact always_B g w hl hr hRs ok ll hv hRr hrl
    · exact always_A g ra r.length rcap w hl hr ll hv
end Go.Proofs.YtbkggcfogmgmmaaDoor
