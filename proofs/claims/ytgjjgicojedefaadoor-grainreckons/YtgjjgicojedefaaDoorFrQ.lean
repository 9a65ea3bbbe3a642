/-
  A digit of a long division, by the first digit of the divisor: the guess, and how it is mended. No Go text is named here.
-/
import Derived.Test.YtgjjgicojedefaaDoorFrP
namespace Go.Proofs.YtgjjgicojedefaaDoor

/-- What stands between two rounds of the mending: the guess is not below the true digit. -/
structure Kn (Y y1 y0 u d k r : Nat) : Prop where
  ge : (u * 4294967296 + d) / Y ≤ k
  sum : k * y1 + r = u
  lid : k ≤ 4294967297
theorem kn_start {Y y1 y0 u d : Nat} (hY : Y = y1 * 4294967296 + y0) (h0 : y0 < 4294967296) (h1 : 2147483648 ≤ y1) (hu : u < Y) (hd : d < 4294967296) : Kn Y y1 y0 u d (u / y1) (u % y1) := by
  refine ⟨?_, by rw [Nat.mul_comm]; exact Nat.div_add_mod u y1, ?_⟩
  · refine (Nat.le_div_iff_mul_le (by omega)).2 ?_
    have h : (u * 4294967296 + d) / Y * Y ≤ u * 4294967296 + d := Nat.div_mul_le_self _ _
    generalize (u * 4294967296 + d) / Y = q at *
    rw [hY, Nat.mul_add, ← Nat.mul_assoc] at h
    generalize q * y1 = A at *
    omega
  · have h : u / y1 < 4294967298 := by
      refine (Nat.div_lt_iff_lt_mul (by omega)).2 ?_
      omega
    omega
theorem kn_prod {Y y1 y0 k : Nat} (hY : Y = y1 * 4294967296 + y0) : k * Y = k * y1 * 4294967296 + k * y0 := by rw [hY, Nat.mul_add, ← Nat.mul_assoc]
theorem kn_low {Y u d : Nat} (hu : u < Y) (hd : d < 4294967296) : (u * 4294967296 + d) / Y < 4294967296 := by
  refine (Nat.div_lt_iff_lt_mul (by omega)).2 ?_
  omega
theorem kn_step {Y y1 y0 u d k r : Nat} (hY : Y = y1 * 4294967296 + y0) (hu : u < Y) (hd : d < 4294967296) (h : Kn Y y1 y0 u d k r) (c : 4294967296 ≤ k ∨ 4294967296 * r + d < k * y0) : 1 ≤ k ∧ Kn Y y1 y0 u d (k - 1) (r + y1) := by
  have hlt : (u * 4294967296 + d) / Y < k := by
    rcases c with c | c
    · exact Nat.lt_of_lt_of_le (kn_low hu hd) c
    · refine (Nat.div_lt_iff_lt_mul (by omega)).2 ?_
      rw [kn_prod hY]
      have := h.sum
      generalize k * y1 = A at *
      generalize k * y0 = B at *
      omega
  have hk : 1 ≤ k := Nat.succ_le_of_lt (Nat.lt_of_le_of_lt (Nat.zero_le _) hlt)
  refine ⟨hk, ⟨Nat.le_sub_one_of_lt hlt, ?_, by have := h.lid; omega⟩⟩
  obtain ⟨j, rfl⟩ : ∃ j, k = j + 1 := ⟨k - 1, by omega⟩
  have := h.sum
  rw [Nat.add_mul, Nat.one_mul] at this
  rw [Nat.add_sub_cancel]
  omega
theorem kn_stop {Y y1 y0 u d k r : Nat} (hY : Y = y1 * 4294967296 + y0) (hu : u < Y) (h : Kn Y y1 y0 u d k r) (c : k * y0 ≤ 4294967296 * r + d) : (u * 4294967296 + d) / Y = k := by
  refine Nat.le_antisymm h.ge ((Nat.le_div_iff_mul_le (by omega)).2 ?_)
  rw [kn_prod hY]
  have := h.sum
  generalize k * y1 = A at *
  generalize k * y0 = B at *
  omega
theorem kn_break {Y y1 y0 u d k r : Nat} (hY : Y = y1 * 4294967296 + y0) (h0 : y0 < 4294967296) (hu : u < Y) (h : Kn Y y1 y0 u d k r) (hk : k ≤ 4294967296) (c : 4294967296 ≤ r) : (u * 4294967296 + d) / Y = k := by
  refine kn_stop hY hu h ?_
  have := Nat.mul_le_mul hk (show y0 ≤ 4294967295 by omega)
  omega
/-- What is left, reckoned in words of 64 bits. -/
theorem kn_left {Y u d : Nat} (hY : Y < 18446744073709551616) (hp : 0 < Y) : (((u : Int) * 4294967296 % 18446744073709551616 + d) % 18446744073709551616 - ((((u * 4294967296 + d) / Y : Nat) : Int) * Y) % 18446744073709551616) % 18446744073709551616 = (((u * 4294967296 + d) % Y : Nat) : Int) := by
  have h := Nat.div_add_mod (u * 4294967296 + d) Y
  have hl := Nat.mod_lt (u * 4294967296 + d) hp
  have e : (((u * 4294967296 + d) / Y : Nat) : Int) * (Y : Int) = ((Y * ((u * 4294967296 + d) / Y) : Nat) : Int) := by rw [Int.natCast_mul, Int.mul_comm]
  rw [e]
  generalize Y * ((u * 4294967296 + d) / Y) = Q at *
  generalize (u * 4294967296 + d) % Y = R at *
  omega
theorem two_aux {Y x Q R q r e N : Nat} (h : Y * Q + R = x) (h2 : Y * q + r = R * 4294967296 + e) (hl : r < Y) (hN : N = x * 4294967296 + e) : N / Y = Q * 4294967296 + q ∧ N % Y = r := by
  have e1 : N = r + Y * (Q * 4294967296 + q) := by
    rw [Nat.mul_add, ← Nat.mul_assoc]
    generalize Y * Q = A at *
    generalize Y * q = B at *
    omega
  rw [e1, Nat.add_mul_div_left _ _ (by omega), Nat.add_mul_mod_self_left, Nat.div_eq_of_lt hl, Nat.mod_eq_of_lt hl, Nat.zero_add]
  exact ⟨rfl, rfl⟩
/-- Two digits, one behind the other. -/
theorem two_digits {Y u d e : Nat} (hp : 0 < Y) : (u * 18446744073709551616 + (d * 4294967296 + e)) / Y = (u * 4294967296 + d) / Y * 4294967296 + ((u * 4294967296 + d) % Y * 4294967296 + e) / Y ∧ (u * 18446744073709551616 + (d * 4294967296 + e)) % Y = ((u * 4294967296 + d) % Y * 4294967296 + e) % Y :=
  two_aux (Nat.div_add_mod (u * 4294967296 + d) Y) (Nat.div_add_mod ((u * 4294967296 + d) % Y * 4294967296 + e) Y) (Nat.mod_lt _ hp) (by omega)
/-- Numbers that are both shifted have the same quotient. -/
theorem shifted {N y p : Nat} (hp : 0 < p) : N * p / (y * p) = N / y ∧ N * p % (y * p) / p = N % y := by
  refine ⟨Nat.mul_div_mul_right _ _ hp, ?_⟩
  rw [Nat.mul_mod_mul_right, Nat.mul_div_cancel _ hp]
end Go.Proofs.YtgjjgicojedefaaDoor
