/-
  DrainGathers: the law.
-/
import Derived.Test.YtbkggcfogmgmmaaDoorQJ7
import Derived.Test.YtbkggcfogmgmmaaDoorQJ8
namespace Go.Proofs.YtbkggcfogmgmmaaDoor
open Go.RowKit

theorem drainGathers_law (g : Nat → Addr) (a : Option Addr) (v : Value) (c : Int) (w : World) (hl : Laid w g) (ha : RArg w a) (hv0 : IArg w v) : Calls Tryd.prog 4 #[.pointer a, v, .int .i64 c] w fun e w' => e = .returned (.bool true) ∧ Gr w w' := by
  obtain ⟨s, h1, h2⟩ := small4_arg ha
  obtain ⟨ra, rb, ro, rcap, r, rfl, hI, hI2⟩ := hv0
  cases s with
  | false => exact gathers_no g _ _ _ w hl h1
  | true =>
    by_cases hM : 200 < r.length
    · exact gathers_long g _ _ ra r.length rcap hM w hl h1
    · obtain ⟨pb, po, W, H, sd, b, o, cap, l, rfl, hr, hc, ll⟩ := h2 rfl
      by_cases hv : vcode W H l = 0
      · obtain ⟨m, n, rfl, rfl, ok⟩ := ok_of hv
        have hN := Nat.mul_le_mul ok.m1 ok.n1
        have h0 : ¬ l.length = 0 := by rw [ok.len]; omega
        obtain ⟨rfl, hRs⟩ := hc h0
        by_cases hrr : r.length = l.length ∧ rainsB r = true
        · obtain ⟨rfl, hRr⟩ := hI2 (by rw [hrr.1]; exact h0)
          by_cases hin : 0 ≤ c ∧ c < (l.length : Int)
          · obtain ⟨k, rfl⟩ : ∃ k : Nat, c = (k : Int) := ⟨c.toNat, by omega⟩
            exact gathers_B1 g k (by omega) w hl hr hRs ok ll hv hRr hrr.1 hrr.2
          · exact gathers_B2 g c hin w hl hr hRs ok ll hv hRr hrr.1 hrr.2
        · by_cases hin : 0 ≤ c ∧ c < (l.length : Int)
          · obtain ⟨k, rfl⟩ : ∃ k : Nat, c = (k : Int) := ⟨c.toNat, by omega⟩
            exact gathers_B3 g k (by omega) w hl hr hRs ok ll hv hI (by omega) hrr
          · exact gathers_B4 g c hin w hl hr hRs ok ll hv hI (by omega) hrr
      · exact gathers_A g ra r.length rcap (by omega) c w hl hr ll hv
end Go.Proofs.YtbkggcfogmgmmaaDoor
