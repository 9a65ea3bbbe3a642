/-
  math/bits.Div64, Rem64; grain's wide.over, wide.left.
-/
import Derived.Test.YtecmkjefoppbiaaDoorQJ6
import Derived.Test.YtecmkjefoppbiaaDoorQJ5
namespace Go.Proofs.YtecmkjefoppbiaaDoor
open Go.RowKit BG

theorem div64_low (lo y q r : Nat) (hq : lo / y = q) (hr : lo % y = r) (hl : lo < 18446744073709551616) (h0 : 0 < y) (w : World) : Calls Tryd.prog 66 #[.int .u64 0, .int .u64 (lo : Int), .int .u64 (y : Int)] w fun e w' => e = .returned (.tuple #[.int .u64 (q : Int), .int .u64 (r : Int)]) ∧ Below w.heap.size w w' := by
  have y0 : ¬ (y : Int) = 0 := by omega
  have y1 : ¬ (y : Int) ≤ 0 := by omega
  have t1 : (lo : Int).tdiv (y : Int) = (q : Int) := by rw [← hq]; rfl
  have t2 : (lo : Int).tmod (y : Int) = (r : Int) := by rw [← hr]; rfl
  have d1 : lo / y ≤ lo := Nat.div_le_self _ _
  have d2 : lo % y ≤ lo := Nat.mod_le _ _
  have w1 : IntKind.u64.wrap (q : Int) = q := wr_nat (by omega)
  have w2 : IntKind.u64.wrap (r : Int) = r := wr_nat (by omega)
  clear hl h0 d1 d2 hq hr
  go_enter Tryd.func66, Tryd.ntmps66
  go_wp2
  go_quiet (fail)
  go_wp2
  go_ret2
  exact ⟨rfl, below_dn (Below.refl _ _)⟩
theorem div64 (hi lo y q r : Nat) (hq : (hi * 18446744073709551616 + lo) / y = q) (hr : (hi * 18446744073709551616 + lo) % y = r) (hl : lo < 18446744073709551616) (h0 : hi < y) (h1 : y < 18446744073709551616) (w : World) : Calls Tryd.prog 66 #[.int .u64 (hi : Int), .int .u64 (lo : Int), .int .u64 (y : Int)] w fun e w' => e = .returned (.tuple #[.int .u64 (q : Int), .int .u64 (r : Int)]) ∧ Below w.heap.size w w' := by
  rcases Nat.eq_zero_or_pos hi with h | h
  · subst h
    rw [Nat.zero_mul, Nat.zero_add] at hq hr
    exact div64_low lo y q r hq hr hl h0 w
  · refine (div64_gen hi lo y q r hq.symm hr.symm h hl h0 h1 w).mono ?_
    rintro e w' ⟨rfl, rfl⟩
    exact ⟨rfl, Below.refl _ _⟩
/-- The remainder of the whole is that of what its high word leaves. -/
theorem rem_hi (hi lo y : Nat) : (hi % y * 18446744073709551616 + lo) % y = (hi * 18446744073709551616 + lo) % y := by
  rw [Nat.add_mod, Nat.mul_mod, Nat.mod_mod, ← Nat.mul_mod, ← Nat.add_mod]
theorem quo_hi (hi lo y : Nat) (h : 0 < y) : (hi * 18446744073709551616 + lo) / y = hi / y * 18446744073709551616 + (hi % y * 18446744073709551616 + lo) / y := by
  have e : hi * 18446744073709551616 + lo = (hi % y * 18446744073709551616 + lo) + y * (hi / y * 18446744073709551616) := by
    have := Nat.div_add_mod hi y
    rw [← Nat.mul_assoc]
    generalize y * (hi / y) = A at *
    generalize hi % y = B at *
    omega
  rw [e, Nat.add_mul_div_left _ _ h]
  omega
end Go.Proofs.YtecmkjefoppbiaaDoor
