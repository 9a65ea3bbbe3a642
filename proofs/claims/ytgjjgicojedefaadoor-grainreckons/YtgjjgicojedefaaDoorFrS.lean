/-
  math/bits.Len64, LeadingZeros64: Go's own text is walked.
-/
import Derived.Test.YtgjjgicojedefaaDoorFrR
namespace Go.Proofs.YtgjjgicojedefaaDoor
open Go.RowKit BG

set_option maxHeartbeats 4000000 in
set_option maxRecDepth 100000 in
theorem len64 (x : Int) (w : World) (h0 : 0 ≤ x) (h1 : x ≤ 18446744073709551615) : Calls Tryd.prog 110 #[.int .u64 x] w fun e w' => e = .returned (.int .i64 (Lib.bitLen x.toNat)) ∧ w' = w := by
  have hs : (Lib.len8tab.size : Int) = 256 := by rw [tab_size]; rfl
  by_cases c0 : 4294967296 ≤ x
  · skip
    by_cases c1 : 65536 ≤ x / 4294967296
    · skip
      by_cases c2 : 256 ≤ x / 4294967296 / 65536
      · skip
        go_enter Tryd.func110, Tryd.ntmps110
        go_wp2
        go_ret
        exact ⟨congrArg (fun z => Ending.returned (.int .i64 z)) (len_fin (k := 56) rfl (by decide) (by omega) (by omega) (by omega) (by omega) (by omega) _), rfl⟩
      · skip
        go_enter Tryd.func110, Tryd.ntmps110
        go_wp2
        go_ret
        exact ⟨congrArg (fun z => Ending.returned (.int .i64 z)) (len_fin (k := 48) rfl (by decide) (by omega) (by omega) (by omega) (by omega) (by omega) _), rfl⟩
    · skip
      by_cases c2 : 256 ≤ x / 4294967296
      · skip
        go_enter Tryd.func110, Tryd.ntmps110
        go_wp2
        go_ret
        exact ⟨congrArg (fun z => Ending.returned (.int .i64 z)) (len_fin (k := 40) rfl (by decide) (by omega) (by omega) (by omega) (by omega) (by omega) _), rfl⟩
      · skip
        go_enter Tryd.func110, Tryd.ntmps110
        go_wp2
        go_ret
        exact ⟨congrArg (fun z => Ending.returned (.int .i64 z)) (len_fin (k := 32) rfl (by decide) (by omega) (by omega) (by omega) (by omega) (by omega) _), rfl⟩
  · skip
    by_cases c1 : 65536 ≤ x
    · skip
      by_cases c2 : 256 ≤ x / 65536
      · skip
        go_enter Tryd.func110, Tryd.ntmps110
        go_wp2
        go_ret
        exact ⟨congrArg (fun z => Ending.returned (.int .i64 z)) (len_fin (k := 24) rfl (by decide) (by omega) (by omega) (by omega) (by omega) (by omega) _), rfl⟩
      · skip
        go_enter Tryd.func110, Tryd.ntmps110
        go_wp2
        go_ret
        exact ⟨congrArg (fun z => Ending.returned (.int .i64 z)) (len_fin (k := 16) rfl (by decide) (by omega) (by omega) (by omega) (by omega) (by omega) _), rfl⟩
    · skip
      by_cases c2 : 256 ≤ x
      · skip
        go_enter Tryd.func110, Tryd.ntmps110
        go_wp2
        go_ret
        exact ⟨congrArg (fun z => Ending.returned (.int .i64 z)) (len_fin (k := 8) rfl (by decide) (by omega) (by omega) (by omega) (by omega) (by omega) _), rfl⟩
      · skip
        go_enter Tryd.func110, Tryd.ntmps110
        go_wp2
        go_ret
        exact ⟨congrArg (fun z => Ending.returned (.int .i64 z)) (len_fin0 (by omega) (by omega) _), rfl⟩
theorem lead64 (x : Int) (w : World) (h0 : 0 ≤ x) (h1 : x ≤ 18446744073709551615) (L : Nat) (hL : Lib.bitLen x.toNat = L) (l64 : L ≤ 64) : Calls Tryd.prog 101 #[.int .u64 x] w fun e w' => e = .returned (.int .i64 (64 - (L : Int))) ∧ w' = w := by
  have H := hidb (fun w => len64 x w h0 h1)
  rw [hL] at H
  go_enter Tryd.func101, Tryd.ntmps101
  go_wp2_with fail
  refine (H.out _).mono ?_
  rintro e w1 ⟨rfl, rfl⟩
  go_wp2
  go_ret
  exact ⟨rfl, rfl⟩
/-- By how much a number must be shifted, so that its first bit is the first of 64. -/
theorem lead_ex {y : Nat} (h0 : 0 < y) (h1 : y < 18446744073709551616) : ∃ s : Nat, s ≤ 63 ∧ 9223372036854775808 ≤ y * 2 ^ s ∧ y * 2 ^ s < 18446744073709551616 ∧ ∀ w : World, Calls Tryd.prog 101 #[.int .u64 (y : Int)] w fun e w' => e = .returned (.int .i64 (s : Int)) ∧ w' = w := by
  obtain ⟨a, b, c⟩ := Lib.bitLenAux_bounds 64 y (by omega) (by omega)
  change 1 ≤ Lib.bitLen y at a
  change 2 ^ (Lib.bitLen y - 1) ≤ y at b
  change y < 2 ^ Lib.bitLen y at c
  have hL : Lib.bitLen (y : Int).toNat = Lib.bitLen y := by rw [Int.toNat_natCast]
  generalize Lib.bitLen y = L at *
  have l64 : L ≤ 64 := by
    rcases Nat.lt_or_ge 64 L with h | h
    · have : 2 ^ 64 ≤ 2 ^ (L - 1) := Nat.pow_le_pow_right (by decide) (by omega)
      omega
    · exact h
  obtain ⟨s, rfl⟩ : ∃ s, L = 64 - s := ⟨64 - L, by omega⟩
  obtain ⟨t, ht⟩ : ∃ t, t = 64 - (64 - s) := ⟨_, rfl⟩
  have e1 : 64 - s + t = 64 := by omega
  have e2 : 64 - s - 1 + t = 63 := by omega
  have p1 : 2 ^ (64 - s) * 2 ^ t = 18446744073709551616 := by rw [← Nat.pow_add, e1]
  have p2 : 2 ^ (64 - s - 1) * 2 ^ t = 9223372036854775808 := by rw [← Nat.pow_add, e2]
  have hp : 0 < 2 ^ t := Nat.pow_pos (by decide)
  refine ⟨t, by omega, by rw [← p2]; exact Nat.mul_le_mul_right _ b, by rw [← p1]; exact Nat.mul_lt_mul_of_pos_right c hp, fun w => ?_⟩
  have h := lead64 (y : Int) w (by omega) (by omega) (64 - s) hL l64
  have e : (64 : Int) - ((64 - s : Nat) : Int) = (t : Int) := by omega
  rw [e] at h
  exact h
end Go.Proofs.YtgjjgicojedefaaDoor
