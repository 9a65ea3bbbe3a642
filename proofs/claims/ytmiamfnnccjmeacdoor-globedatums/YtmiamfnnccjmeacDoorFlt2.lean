/-
  Numbers with a point, as bits: sizes, opposites, zeros of both signs, which words are finite numbers. No Go text is named here.
-/
import Derived.Test.YtmiamfnnccjmeacDoorFlt
namespace Go.Proofs.YtmiamfnnccjmeacDoor.FB
open Ieee

def sb : Nat := 9223372036854775808
/-- The word without its sign. -/
def absB (x : Nat) : Nat := x % 9223372036854775808
theorem sw : double.signWeight = 9223372036854775808 := by decide +kernel
theorem bn : double.binade = 4503599627370496 := by decide +kernel
theorem ir : double.infRung = 9218868437227405312 := by decide +kernel
theorem lp : double.leastPlace = -1074 := by decide +kernel

theorem read_eq (x : Nat) : double.read x =
    if x % 9223372036854775808 < 4503599627370496 then .number (x / 9223372036854775808 % 2 == 1) (x % 9223372036854775808) (-1074)
    else if x % 9223372036854775808 < 9218868437227405312 then .number (x / 9223372036854775808 % 2 == 1) (4503599627370496 + x % 9223372036854775808 % 4503599627370496) (-1074 + (x % 9223372036854775808 / 4503599627370496 - 1 : Nat))
    else if x % 9223372036854775808 = 9218868437227405312 then .infinity (x / 9223372036854775808 % 2 == 1)
    else .nan (x / 9223372036854775808 % 2 == 1) (x % 9223372036854775808 - 9218868437227405312) := by
  unfold Format.read
  simp only [sw, bn, ir, lp]

theorem read_abs (x : Nat) : double.read (absB x) = match double.read x with
    | .number _ m e => .number false m e
    | .infinity _ => .infinity false
    | .nan _ f => .nan false f := by
  rw [read_eq, read_eq]
  unfold absB
  have h1 : x % 9223372036854775808 % 9223372036854775808 = x % 9223372036854775808 := Nat.mod_mod _ _
  have h2 : (x % 9223372036854775808 / 9223372036854775808 % 2 == 1) = false := by
    rw [Nat.div_eq_of_lt (Nat.mod_lt _ (by decide))]; rfl
  rw [h1, h2]
  by_cases c1 : x % 9223372036854775808 < 4503599627370496
  · rw [if_pos c1, if_pos c1]
  · rw [if_neg c1, if_neg c1]
    by_cases c2 : x % 9223372036854775808 < 9218868437227405312
    · rw [if_pos c2, if_pos c2]
    · rw [if_neg c2, if_neg c2]
      by_cases c3 : x % 9223372036854775808 = 9218868437227405312
      · rw [if_pos c3, if_pos c3]
      · rw [if_neg c3, if_neg c3]

theorem num_abs {x : Nat} (h : Num x) : Num (absB x) := by
  obtain ⟨s, m, e, h⟩ := h
  exact ⟨false, m, e, by rw [read_abs, h]⟩

theorem num_bd {x : Nat} {s : Bool} {m : Nat} {e : Int} (h : double.read x = .number s m e) : m ≤ 9007199254740991 ∧ -1074 ≤ e ∧ e ≤ 971 ∧ (m = 0 → x % 9223372036854775808 = 0) ∧ s = (x / 9223372036854775808 % 2 == 1) := by
  rw [read_eq] at h
  generalize hr : x % 9223372036854775808 = r at h ⊢
  by_cases c1 : r < 4503599627370496
  · rw [if_pos c1] at h
    injection h with h1 h2 h3
    subst h1 h2 h3
    exact ⟨by omega, by omega, by omega, fun h => h, rfl⟩
  · rw [if_neg c1] at h
    by_cases c2 : r < 9218868437227405312
    · rw [if_pos c2] at h
      injection h with h1 h2 h3
      subst h1 h2 h3
      exact ⟨by omega, by omega, by omega, by omega, rfl⟩
    · rw [if_neg c2] at h
      by_cases c3 : r = 9218868437227405312
      · rw [if_pos c3] at h; cases h
      · rw [if_neg c3] at h; cases h

def maxF : Nat := 9218868437227405311
theorem read_max : double.read maxF = .number false 9007199254740991 971 := by decide +kernel

theorem signed_false (m u : Nat) : signed false m u = ((m * 2 ^ u : Nat) : Int) := by unfold signed; rw [Nat.shiftLeft_eq]; rfl
theorem signed_true (m u : Nat) : signed true m u = -((m * 2 ^ u : Nat) : Int) := by unfold signed; rw [Nat.shiftLeft_eq]; rfl

/-- No finite number is above the greatest one. -/
theorem abs_not_gt {x : Nat} (h : Num x) : double.order (absB x) maxF ≠ some .gt := by
  obtain ⟨s, m, e, h⟩ := h
  obtain ⟨h1, h2, h3, _⟩ := num_bd h
  unfold Format.order
  rw [read_abs, h, read_max]
  simp only [Datum.order]
  rw [Int.min_eq_left h3, signed_false, signed_false]
  intro hc
  have hgt : ((9007199254740991 * 2 ^ (971 - e).toNat : Nat) : Int) < ((m * 2 ^ (e - e).toNat : Nat) : Int) := by
    have := Option.some.inj hc
    rw [Int.compare_eq_gt] at this
    exact this
  have e0 : (e - e).toNat = 0 := by omega
  rw [e0] at hgt
  have hp : 1 ≤ 2 ^ (971 - e).toNat := Nat.one_le_two_pow
  have := Nat.mul_le_mul_left 9007199254740991 hp
  omega

theorem order_inf {x : Nat} {s : Bool} (h : double.read x = .infinity s) : double.order (absB x) maxF = some .gt ∧ double.order x x = some .eq := by
  unfold Format.order
  rw [read_abs, h, read_max]
  cases s <;> exact ⟨rfl, rfl⟩
theorem order_nan {x y : Nat} {s : Bool} {f : Nat} (h : double.read x = .nan s f) : double.order x y = none := by
  unfold Format.order; rw [h]; rfl

theorem sub_self {x : Nat} (h : Num x) : double.sub x x = some 0 := by
  obtain ⟨s, m, e, h⟩ := h
  unfold Format.sub
  rw [h]
  have : Datum.sum (.number s m e) (Datum.opposite (.number s m e)) = some (.number false 0 e) := by
    simp only [Datum.opposite, Datum.sum]
    rw [Int.min_self]
    cases s <;> simp only [Bool.not_false, Bool.not_true, signed_false, signed_true] <;> congr 1 <;> simp <;> omega
  rw [this]
  rfl
theorem sub_inf {x : Nat} {s : Bool} (h : double.read x = .infinity s) : double.sub x x = none := by
  unfold Format.sub; rw [h]; cases s <;> rfl
theorem sub_nan {x : Nat} {s : Bool} {f : Nat} (h : double.read x = .nan s f) : double.sub x x = none := by
  unfold Format.sub; rw [h]; rfl

theorem xor_lt {b : Nat} (h : b < 2 ^ 63) : b ^^^ 2 ^ 63 = 2 ^ 63 + b := by
  apply Nat.eq_of_testBit_eq
  intro j
  rw [Nat.testBit_xor, Nat.testBit_two_pow]
  rcases Nat.lt_trichotomy j 63 with hj | hj | hj
  · rw [Nat.testBit_two_pow_add_gt hj]
    have : decide (63 = j) = false := by simp; omega
    rw [this, Bool.xor_false]
  · subst hj
    rw [Nat.testBit_two_pow_add_eq]
    simp
  · have h1 : b.testBit j = false := Nat.testBit_lt_two_pow (Nat.lt_of_lt_of_le h (Nat.pow_le_pow_right (by decide) (by omega)))
    have h2 : (2 ^ 63 + b).testBit j = false := Nat.testBit_lt_two_pow (Nat.lt_of_lt_of_le (show 2 ^ 63 + b < 2 ^ 64 by omega) (Nat.pow_le_pow_right (by decide) (by omega)))
    rw [h1, h2]
    have : decide (63 = j) = false := by simp; omega
    rw [this]; rfl
theorem neg_low {b : Nat} (h : b < 9223372036854775808) : Op.negFloat .f64 b = 9223372036854775808 + b := xor_lt h
theorem neg_high {b : Nat} (h : b < 9223372036854775808) : Op.negFloat .f64 (9223372036854775808 + b) = b := by
  have h1 := neg_low h
  rw [← h1]
  show (b ^^^ 2 ^ 63) ^^^ 2 ^ 63 = b
  rw [Nat.xor_assoc, Nat.xor_self, Nat.xor_zero]
theorem neg_abs (x : Nat) (hx : x < 18446744073709551616) : absB (Op.negFloat .f64 x) = absB x ∧ Op.negFloat .f64 x < 18446744073709551616 := by
  unfold absB
  by_cases h : x < 9223372036854775808
  · rw [neg_low h]; omega
  · obtain ⟨b, rfl⟩ : ∃ b, x = 9223372036854775808 + b := ⟨x - 9223372036854775808, by omega⟩
    rw [neg_high (by omega)]; omega
theorem num_of_abs {x : Nat} (h : Num (absB x)) : Num x := by
  obtain ⟨s, m, e, h⟩ := h
  rw [read_abs] at h
  cases hx : double.read x with
  | number t n f => exact ⟨t, n, f, hx⟩
  | infinity t => rw [hx] at h; cases h
  | nan t f => rw [hx] at h; cases h
theorem num_neg {x : Nat} (hx : x < 18446744073709551616) (h : Num x) : Num (Op.negFloat .f64 x) := by
  apply num_of_abs
  rw [(neg_abs x hx).1]
  exact num_abs h
theorem neg_le {k x : Nat} (h : Le k x) : Le k (Op.negFloat .f64 x) := by
  obtain ⟨h1, h2⟩ := h
  have := neg_abs x h1
  unfold absB at this
  exact ⟨this.2, by rw [this.1]; exact h2⟩

/-- Below 0: the opposite is the size. -/
theorem lt_zero {x : Nat} (hx : x < 18446744073709551616) (hn : Num x) (h : double.order x 0 = some .lt) : Op.negFloat .f64 x = absB x := by
  unfold absB
  by_cases hlt : x < 9223372036854775808
  · exfalso
    obtain ⟨s, m, e, hr⟩ := hn
    obtain ⟨_, h2, _, _, h5⟩ := num_bd hr
    rw [Nat.div_eq_of_lt hlt] at h5
    have hs : s = false := by rw [h5]; rfl
    subst hs
    unfold Format.order at h
    rw [hr, show double.read 0 = .number false 0 (-1074) by decide +kernel] at h
    simp only [Datum.order, signed_false] at h
    have := Option.some.inj h
    rw [Int.compare_eq_lt] at this
    simp only [Nat.zero_mul] at this
    generalize m * 2 ^ (e - min e (-1074)).toNat = q at this
    omega
  · obtain ⟨b, rfl⟩ : ∃ b, x = 9223372036854775808 + b := ⟨x - 9223372036854775808, by omega⟩
    rw [neg_high (by omega)]; omega
/-- Not below 0: it is its size, or the zero that has a sign. -/
theorem ge_zero {x : Nat} (hx : x < 18446744073709551616) (hn : Num x) (h : double.order x 0 ≠ some .lt) : absB x = x ∨ (x = 9223372036854775808 ∧ absB x = 0) := by
  unfold absB
  by_cases hlt : x < 9223372036854775808
  · left; omega
  · right
    obtain ⟨s, m, e, hr⟩ := hn
    obtain ⟨_, h2, _, h4, h5⟩ := num_bd hr
    have hs : s = true := by
      rw [h5]
      have : x / 9223372036854775808 = 1 := by omega
      rw [this]; rfl
    subst hs
    unfold Format.order at h
    rw [hr, show double.read 0 = .number false 0 (-1074) by decide +kernel] at h
    simp only [Datum.order, signed_false, signed_true] at h
    have hm : m = 0 := by
      rcases Nat.eq_zero_or_pos m with h0 | h0
      · exact h0
      · exfalso
        apply h
        congr 1
        rw [Int.compare_eq_lt]
        have hp : 0 < m * 2 ^ (e - min e (-1074)).toNat := Nat.mul_pos h0 (Nat.two_pow_pos _)
        simp only [Nat.zero_mul]
        omega
    have := h4 hm
    omega

/-- The two zeros stand alike. -/
theorem order_zero_l (r : Nat) : double.order 9223372036854775808 r = double.order 0 r := by
  unfold Format.order
  rw [show double.read 0 = .number false 0 (-1074) by decide +kernel, show double.read 9223372036854775808 = .number true 0 (-1074) by decide +kernel]
  cases double.read r <;> simp [Datum.order, signed_false, signed_true]
theorem order_zero_r (r : Nat) : double.order r 9223372036854775808 = double.order r 0 := by
  unfold Format.order
  rw [show double.read 0 = .number false 0 (-1074) by decide +kernel, show double.read 9223372036854775808 = .number true 0 (-1074) by decide +kernel]
  cases double.read r <;> simp [Datum.order, signed_false, signed_true]

/-- Is left at most right? -/
def cle (a b : Nat) : Bool := double.order a b == some .lt || double.order a b == some .eq
def SameZ (a b : Nat) : Prop := a = b ∨ ((a = 0 ∨ a = 9223372036854775808) ∧ (b = 0 ∨ b = 9223372036854775808))
theorem cle_congr {a a' b b' : Nat} (h : SameZ a a') (k : SameZ b b') : cle a b = cle a' b' := by
  have hl : ∀ r, double.order a r = double.order a' r := by
    intro r
    rcases h with rfl | ⟨rfl | rfl, rfl | rfl⟩
    · rfl
    · rfl
    · exact (order_zero_l r).symm
    · exact order_zero_l r
    · rfl
  have hr : ∀ r, double.order r b = double.order r b' := by
    intro r
    rcases k with rfl | ⟨rfl | rfl, rfl | rfl⟩
    · rfl
    · rfl
    · exact (order_zero_r r).symm
    · exact order_zero_r r
    · rfl
  unfold cle
  rw [hl, hr]
theorem FM_sameZ {s u v : Nat} (hs : Num s) (h : u = v ∨ (u = 9223372036854775808 ∧ v = 0)) : SameZ (FM s u) (FM s v) := by
  rcases h with rfl | ⟨rfl, rfl⟩
  · exact .inl rfl
  · exact .inr ⟨FM_negzero hs, FM_zero hs⟩

/-- A zero without its sign. -/
def uz (x : Nat) : Nat := if double.order x 0 = some .eq then 0 else x
theorem uz_same {x : Nat} (h : Num x) : double.order (uz x) x = some .eq ∧ Num (uz x) := by
  unfold uz
  split
  · rename_i he; exact ⟨order_eq_symm he, zero_num⟩
  · exact ⟨order_self h, h⟩
end Go.Proofs.YtmiamfnnccjmeacDoor.FB
