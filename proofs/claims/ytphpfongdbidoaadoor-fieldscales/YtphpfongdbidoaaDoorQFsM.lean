/-
  FieldScales of any arguments.
-/
import Derived.Test.YtphpfongdbidoaaDoorQFsL
namespace Go.Proofs.YtphpfongdbidoaaDoor
open Go.RowKit

set_option maxRecDepth 4000 in
set_option maxHeartbeats 4000000 in
theorem scales_no (g : Nat → Addr) (n : Int) (u : Value) (w : World) (hl : Laid w g) (h1 : ∀ W, Gr w W → Calls Tryd.prog 7 #[u] W fun e w' => e = .returned (.bool false) ∧ w' = W) : Calls Tryd.prog 5 #[u, .int .i64 n] w fun e w' => e = .returned (.bool true) ∧ Gr w w' := by
  have CR := hidb (rasters_any g w hl)
  have S1 := hidb h1
  clear hl h1
  go_enter Tryd.func5, Tryd.ntmps5
  go_wp2_with fail
  refine CR.out.mono ?_
  rintro e w1 ⟨rfl, hB⟩
  have G := hidb hB
  clear hB
  go_wp2_with fail
  refine (S1.out _ G.out).mono ?_
  rintro e w2 ⟨rfl, rfl⟩
  go_wp2
  go_ret
  exact ⟨rfl, G.out⟩
theorem fieldScales_law (g : Nat → Addr) (n : Int) (a : Option Addr) (w : World) (hl : Laid w g) (ha : RArg w a) : Calls Tryd.prog 5 #[.pointer a, .int .i64 n] w fun e w' => e = .returned (.bool true) ∧ Gr w w' := by
  obtain ⟨s, c, k⟩ := small_arg ha
  cases s
  · exact scales_no g n _ w hl c
  · obtain ⟨pb, po, W, H, sd, b, o, cap, l, rfl, ra, hr, ll⟩ := k rfl
    by_cases hc : scode W H l n = 0
    · have hv : vcode W H l = 0 := by
        unfold scode at hc
        by_cases h : vcode W H l = 0
        · exact h
        · rw [if_neg h] at hc; exact hc
      have hn : 1 ≤ n ∧ n ≤ 128 := by
        unfold scode at hc
        rw [if_pos hv] at hc
        by_cases h : inI 1 128 n
        · unfold inI at h; simpa using h
        · rw [if_neg h] at hc; cases hc
      obtain ⟨m, k, rfl, rfl, ok⟩ := ok_of hv
      have hp : 1 * 1 ≤ m * k := Nat.mul_le_mul ok.m1 ok.n1
      obtain ⟨rfl, hr2⟩ := hr (by have := ok.len; omega)
      obtain ⟨q, rfl⟩ : ∃ q : Nat, n = q := ⟨n.toNat, by omega⟩
      by_cases hb : m * q ≤ 128 ∧ k * q ≤ 128
      · exact scales_C g w hl ra hr2 ok ll (by omega) (by omega) hb
      · exact scales_B g w hl ra hr2 ok ll (by omega) (by omega) (by omega)
    · exact scales_A g n w hl ra ll hc
end Go.Proofs.YtphpfongdbidoaaDoor
