/-
  Whole numbers of 128 bits in two words; fractions in their lowest terms. No Go text is named here.; Fractions in their lowest terms. No Go text is named here.; A digit of a long division, by the first digit of the divisor: the guess, and how it is mended. No Go text is named here.
-/
import Derived.Test.YtecmkjefoppbiaaDoorQJ1
namespace Go.Proofs.YtecmkjefoppbiaaDoor

/-- The high word and the low word of a number, below 0 as its two's complement. -/
def hi2 (z : Int) : Int := z / 18446744073709551616 % 18446744073709551616
def lo2 (z : Int) : Int := z % 18446744073709551616
/-- The borrow. -/
def bor (x y : Int) : Int := if x < y then 1 else 0
theorem bor_0 (x y : Int) : 0 ≤ bor x y := by unfold bor; split <;> decide
theorem bor_1 (x y : Int) : bor x y ≤ 1 := by unfold bor; split <;> decide
theorem hi2_0 (z : Int) : 0 ≤ hi2 z := by unfold hi2; omega
theorem hi2_1 (z : Int) : hi2 z < 18446744073709551616 := by unfold hi2; omega
theorem lo2_0 (z : Int) : 0 ≤ lo2 z := by unfold lo2; omega
theorem lo2_1 (z : Int) : lo2 z < 18446744073709551616 := by unfold lo2; omega
theorem lo_neg (z : Int) : (0 - lo2 z) % 18446744073709551616 = lo2 (-z) := by unfold lo2; omega
theorem hi_neg (z : Int) : (0 - hi2 z - bor 0 (lo2 z)) % 18446744073709551616 = hi2 (-z) := by unfold hi2 lo2 bor; split <;> omega
theorem lo_add (x y : Int) : (lo2 x + lo2 y) % 18446744073709551616 = lo2 (x + y) := by unfold lo2; omega
theorem hi_add (x y : Int) : (hi2 x + hi2 y + (lo2 x + lo2 y) / 18446744073709551616) % 18446744073709551616 = hi2 (x + y) := by unfold hi2 lo2; omega
theorem hi_nat (n : Nat) (h : n < 340282366920938463463374607431768211456) : ((n / 18446744073709551616 : Nat) : Int) = hi2 (n : Int) := by unfold hi2; omega
theorem lo_nat (n : Nat) : ((n % 18446744073709551616 : Nat) : Int) = lo2 (n : Int) := by unfold lo2; omega
theorem mul_128 {a b : Nat} (ha : a < 18446744073709551616) (hb : b < 18446744073709551616) : a * b < 340282366920938463463374607431768211456 := by
  have h := Nat.mul_le_mul (show a ≤ 18446744073709551615 by omega) (show b ≤ 18446744073709551615 by omega)
  omega
/-- -1, 0, 1. -/
def sg (z : Int) : Int := if z < 0 then -1 else if z = 0 then 0 else 1
/-- The number is in reach of a sign. -/
def Wid (z : Int) : Prop := -170141183460469231731687303715884105728 ≤ z ∧ z < 170141183460469231731687303715884105728
theorem sign_neg {z : Int} (h : Wid z) : hi2 z / 9223372036854775808 = 1 ↔ z < 0 := by unfold Wid at h; unfold hi2; omega
theorem sign_zero {z : Int} (h : Wid z) : hi2 z = 0 ∧ lo2 z = 0 ↔ z = 0 := by unfold Wid at h; unfold hi2 lo2; omega
theorem wid_add {x y : Int} (hx : x.natAbs ≤ 21267647932558653966460912964485513216) (hy : y.natAbs ≤ 21267647932558653966460912964485513216) : Wid (x + y) := by unfold Wid; omega
theorem prod_62 {x y : Int} (hx : x.natAbs ≤ 4611686018427387904) (hy : y.natAbs ≤ 4611686018427387904) : (x * y).natAbs ≤ 21267647932558653966460912964485513216 := by
  rw [Int.natAbs_mul]
  exact Nat.le_trans (Nat.mul_le_mul hx hy) (by decide +kernel)
end Go.Proofs.YtecmkjefoppbiaaDoor
namespace Go.Proofs.YtecmkjefoppbiaaDoor

/-- A fraction's two parts in their lowest terms, without a sign. -/
def rn (x y : Nat) : Nat := x / Nat.gcd x y
def rd (x y : Nat) : Nat := y / Nat.gcd x y
theorem rn_le (x y : Nat) : rn x y ≤ x := Nat.div_le_self _ _
theorem rd_le (x y : Nat) : rd x y ≤ y := Nat.div_le_self _ _
theorem cop1 {x y : Int} {a b : Nat} (h : Nat.Coprime a b) (hx : Nat.gcd x.natAbs a = 1) : Nat.Coprime (x * b + y * a).natAbs a := by
  have k1 := Nat.gcd_dvd_left (x * b + y * a).natAbs a
  have k2 := Nat.gcd_dvd_right (x * b + y * a).natAbs a
  unfold Nat.Coprime
  generalize Nat.gcd (x * b + y * a).natAbs a = k at *
  have k3 : (k : Int) ∣ x * b + y * a := Int.ofNat_dvd_left.2 k1
  have k4 : (k : Int) ∣ y * a := Int.dvd_mul_of_dvd_right (Int.natCast_dvd_natCast.2 k2)
  have k5 : (k : Int) ∣ x * b := (Int.dvd_add_left k4).1 k3
  have k6 : k ∣ x.natAbs * b := by have := Int.ofNat_dvd_left.1 k5; rw [Int.natAbs_mul] at this; exact this
  have k7 : k ∣ x.natAbs := (Nat.Coprime.coprime_dvd_left k2 h).dvd_of_dvd_mul_right k6
  have k8 : k ∣ 1 := by rw [← hx]; exact Nat.dvd_gcd k7 k2
  exact Nat.dvd_one.1 k8
/-- What remains of a sum. -/
def suS (an bn : Int) (ad bd : Nat) : Int := an * ((bd / Nat.gcd ad bd : Nat) : Int) + bn * ((ad / Nat.gcd ad bd : Nat) : Int)
def suD (an bn : Int) (ad bd : Nat) : Nat := Nat.gcd (Nat.gcd ad bd) ((suS an bn ad bd).natAbs % Nat.gcd ad bd)
theorem plus_red {an bn : Int} {ad bd : Nat} (ha : Nat.gcd an.natAbs ad = 1) (hb : Nat.gcd bn.natAbs bd = 1) (h1 : 0 < ad) (_h2 : 0 < bd) :
    rn (an * bd + bn * ad).natAbs (ad * bd) = (suS an bn ad bd).natAbs / suD an bn ad bd ∧ rd (an * bd + bn * ad).natAbs (ad * bd) = ad / Nat.gcd ad bd * (bd / suD an bn ad bd) ∧ 0 < Nat.gcd ad bd ∧ 0 < suD an bn ad bd ∧ an * bd + bn * ad = (Nat.gcd ad bd : Int) * suS an bn ad bd := by
  have hc : 0 < Nat.gcd ad bd := Nat.gcd_pos_of_pos_left _ h1
  have hcop := Nat.coprime_div_gcd_div_gcd hc
  have ea : ad = Nat.gcd ad bd * (ad / Nat.gcd ad bd) := (Nat.mul_div_cancel' (Nat.gcd_dvd_left _ _)).symm
  have eb : bd = Nat.gcd ad bd * (bd / Nat.gcd ad bd) := (Nat.mul_div_cancel' (Nat.gcd_dvd_right _ _)).symm
  have hda : ad / Nat.gcd ad bd ∣ ad := Nat.div_dvd_of_dvd (Nat.gcd_dvd_left _ _)
  have hdb : bd / Nat.gcd ad bd ∣ bd := Nat.div_dvd_of_dvd (Nat.gcd_dvd_right _ _)
  have ca : Nat.gcd an.natAbs (ad / Nat.gcd ad bd) = 1 := Nat.Coprime.coprime_dvd_right hda ha
  have cb : Nat.gcd bn.natAbs (bd / Nat.gcd ad bd) = 1 := Nat.Coprime.coprime_dvd_right hdb hb
  unfold suD suS
  generalize ad / Nat.gcd ad bd = a at *
  generalize bd / Nat.gcd ad bd = b at *
  have sa : Nat.Coprime (an * b + bn * a).natAbs a := cop1 hcop ca
  have sb : Nat.Coprime (an * b + bn * a).natAbs b := by have := cop1 (y := an) hcop.symm cb; rw [Int.add_comm] at this; exact this
  generalize Nat.gcd ad bd = c at *
  have en : an * bd + bn * ad = (c : Int) * (an * b + bn * a) := by
    rw [ea, eb]; push_cast; rw [Int.mul_add, Int.mul_left_comm, Int.mul_left_comm bn]
  have en' : (an * bd + bn * ad).natAbs = c * (an * b + bn * a).natAbs := by rw [en, Int.natAbs_mul]; rfl
  have ed : ad * bd = c * (c * (a * b)) := by rw [ea, eb, Nat.mul_assoc, Nat.mul_left_comm a]
  generalize hS : (an * b + bn * a).natAbs = S at *
  have eg : Nat.gcd (c * S) (c * (c * (a * b))) = c * Nat.gcd c (S % c) := by
    rw [Nat.gcd_mul_left, Nat.Coprime.gcd_mul_right_cancel_right c (Nat.Coprime.mul_left sa.symm sb.symm), Nat.gcd_comm S c, Nat.gcd_rec c S, Nat.gcd_comm]
  have hd : 0 < Nat.gcd c (S % c) := Nat.gcd_pos_of_pos_left _ hc
  obtain ⟨e, he⟩ := Nat.gcd_dvd_left c (S % c)
  refine ⟨?_, ?_, hc, hd, en⟩
  · unfold rn
    rw [en', ed, eg, Nat.mul_div_mul_left _ _ hc]
  · unfold rd
    rw [en', ed, eg, Nat.mul_div_mul_left _ _ hc, eb]
    generalize Nat.gcd c (S % c) = d at *
    subst he
    rw [Nat.mul_assoc, Nat.mul_div_cancel_left _ hd, Nat.mul_assoc d e b, Nat.mul_div_cancel_left _ hd, Nat.mul_left_comm]
theorem times_red {x y a b : Nat} (ha : Nat.gcd x a = 1) (hb : Nat.gcd y b = 1) (h1 : 0 < a) (h2 : 0 < b) :
    rn (x * y) (a * b) = x / Nat.gcd x b * (y / Nat.gcd y a) ∧ rd (x * y) (a * b) = a / Nat.gcd y a * (b / Nat.gcd x b) ∧ 0 < Nat.gcd x b ∧ 0 < Nat.gcd y a := by
  have hc : 0 < Nat.gcd x b := Nat.gcd_pos_of_pos_right _ h2
  have hd : 0 < Nat.gcd y a := Nat.gcd_pos_of_pos_right _ h1
  have hcop := Nat.coprime_div_gcd_div_gcd hc
  have hdop := Nat.coprime_div_gcd_div_gcd hd
  have ex : x = Nat.gcd x b * (x / Nat.gcd x b) := (Nat.mul_div_cancel' (Nat.gcd_dvd_left _ _)).symm
  have eb : b = Nat.gcd x b * (b / Nat.gcd x b) := (Nat.mul_div_cancel' (Nat.gcd_dvd_right _ _)).symm
  have ey : y = Nat.gcd y a * (y / Nat.gcd y a) := (Nat.mul_div_cancel' (Nat.gcd_dvd_left _ _)).symm
  have ea : a = Nat.gcd y a * (a / Nat.gcd y a) := (Nat.mul_div_cancel' (Nat.gcd_dvd_right _ _)).symm
  have dx : x / Nat.gcd x b ∣ x := Nat.div_dvd_of_dvd (Nat.gcd_dvd_left _ _)
  have db : b / Nat.gcd x b ∣ b := Nat.div_dvd_of_dvd (Nat.gcd_dvd_right _ _)
  have dy : y / Nat.gcd y a ∣ y := Nat.div_dvd_of_dvd (Nat.gcd_dvd_left _ _)
  have da : a / Nat.gcd y a ∣ a := Nat.div_dvd_of_dvd (Nat.gcd_dvd_right _ _)
  have c1 : Nat.Coprime (x / Nat.gcd x b) (a / Nat.gcd y a) := Nat.Coprime.coprime_dvd_left dx (Nat.Coprime.coprime_dvd_right da ha)
  have c2 : Nat.Coprime (y / Nat.gcd y a) (b / Nat.gcd x b) := Nat.Coprime.coprime_dvd_left dy (Nat.Coprime.coprime_dvd_right db hb)
  generalize x / Nat.gcd x b = x' at *
  generalize b / Nat.gcd x b = b' at *
  generalize y / Nat.gcd y a = y' at *
  generalize a / Nat.gcd y a = a' at *
  generalize Nat.gcd x b = c at *
  generalize Nat.gcd y a = d at *
  have e1 : x * y = (c * d) * (x' * y') := by rw [ex, ey]; ac_rfl
  have e2 : a * b = (c * d) * (a' * b') := by rw [ea, eb]; ac_rfl
  have hcd : 0 < c * d := Nat.mul_pos hc hd
  have cp : Nat.gcd (x' * y') (a' * b') = 1 := Nat.Coprime.mul_left (Nat.Coprime.mul_right c1 hcop) (Nat.Coprime.mul_right hdop c2)
  refine ⟨?_, ?_, hc, hd⟩
  · unfold rn; rw [e1, e2, Nat.gcd_mul_left, cp, Nat.mul_one, Nat.mul_div_cancel_left _ hcd]
  · unfold rd; rw [e1, e2, Nat.gcd_mul_left, cp, Nat.mul_one, Nat.mul_div_cancel_left _ hcd]
end Go.Proofs.YtecmkjefoppbiaaDoor
namespace Go.Proofs.YtecmkjefoppbiaaDoor

/-- What stands between two rounds of the mending: the guess is not below the true digit. -/
structure Kn (Y y1 y0 u d k r : Nat) : Prop where
  ge : (u * 4294967296 + d) / Y ≤ k
  sum : k * y1 + r = u
  lid : k ≤ 4294967297
theorem kn_start {Y y1 y0 u d : Nat} (hY : Y = y1 * 4294967296 + y0) (h0 : y0 < 4294967296) (h1 : 2147483648 ≤ y1) (hu : u < Y) (hd : d < 4294967296) : Kn Y y1 y0 u d (u / y1) (u % y1) := by
  refine ⟨?_, by rw [Nat.mul_comm]; exact Nat.div_add_mod u y1, ?_⟩
  · refine (Nat.le_div_iff_mul_le (by omega)).2 ?_
    have h : (u * 4294967296 + d) / Y * Y ≤ u * 4294967296 + d := Nat.div_mul_le_self _ _
    generalize (u * 4294967296 + d) / Y = q at *
    rw [hY, Nat.mul_add, ← Nat.mul_assoc] at h
    generalize q * y1 = A at *
    omega
  · have h : u / y1 < 4294967298 := by
      refine (Nat.div_lt_iff_lt_mul (by omega)).2 ?_
      omega
    omega
theorem kn_prod {Y y1 y0 k : Nat} (hY : Y = y1 * 4294967296 + y0) : k * Y = k * y1 * 4294967296 + k * y0 := by rw [hY, Nat.mul_add, ← Nat.mul_assoc]
theorem kn_low {Y u d : Nat} (hu : u < Y) (hd : d < 4294967296) : (u * 4294967296 + d) / Y < 4294967296 := by
  refine (Nat.div_lt_iff_lt_mul (by omega)).2 ?_
  omega
theorem kn_step {Y y1 y0 u d k r : Nat} (hY : Y = y1 * 4294967296 + y0) (hu : u < Y) (hd : d < 4294967296) (h : Kn Y y1 y0 u d k r) (c : 4294967296 ≤ k ∨ 4294967296 * r + d < k * y0) : 1 ≤ k ∧ Kn Y y1 y0 u d (k - 1) (r + y1) := by
  have hlt : (u * 4294967296 + d) / Y < k := by
    rcases c with c | c
    · exact Nat.lt_of_lt_of_le (kn_low hu hd) c
    · refine (Nat.div_lt_iff_lt_mul (by omega)).2 ?_
      rw [kn_prod hY]
      have := h.sum
      generalize k * y1 = A at *
      generalize k * y0 = B at *
      omega
  have hk : 1 ≤ k := Nat.succ_le_of_lt (Nat.lt_of_le_of_lt (Nat.zero_le _) hlt)
  refine ⟨hk, ⟨Nat.le_sub_one_of_lt hlt, ?_, by have := h.lid; omega⟩⟩
  obtain ⟨j, rfl⟩ : ∃ j, k = j + 1 := ⟨k - 1, by omega⟩
  have := h.sum
  rw [Nat.add_mul, Nat.one_mul] at this
  rw [Nat.add_sub_cancel]
  omega
theorem kn_stop {Y y1 y0 u d k r : Nat} (hY : Y = y1 * 4294967296 + y0) (hu : u < Y) (h : Kn Y y1 y0 u d k r) (c : k * y0 ≤ 4294967296 * r + d) : (u * 4294967296 + d) / Y = k := by
  refine Nat.le_antisymm h.ge ((Nat.le_div_iff_mul_le (by omega)).2 ?_)
  rw [kn_prod hY]
  have := h.sum
  generalize k * y1 = A at *
  generalize k * y0 = B at *
  omega
theorem kn_break {Y y1 y0 u d k r : Nat} (hY : Y = y1 * 4294967296 + y0) (h0 : y0 < 4294967296) (hu : u < Y) (h : Kn Y y1 y0 u d k r) (hk : k ≤ 4294967296) (c : 4294967296 ≤ r) : (u * 4294967296 + d) / Y = k := by
  refine kn_stop hY hu h ?_
  have := Nat.mul_le_mul hk (show y0 ≤ 4294967295 by omega)
  omega
/-- What is left, reckoned in words of 64 bits. -/
theorem kn_left {Y u d : Nat} (hY : Y < 18446744073709551616) (hp : 0 < Y) : (((u : Int) * 4294967296 % 18446744073709551616 + d) % 18446744073709551616 - ((((u * 4294967296 + d) / Y : Nat) : Int) * Y) % 18446744073709551616) % 18446744073709551616 = (((u * 4294967296 + d) % Y : Nat) : Int) := by
  have h := Nat.div_add_mod (u * 4294967296 + d) Y
  have hl := Nat.mod_lt (u * 4294967296 + d) hp
  have e : (((u * 4294967296 + d) / Y : Nat) : Int) * (Y : Int) = ((Y * ((u * 4294967296 + d) / Y) : Nat) : Int) := by rw [Int.natCast_mul, Int.mul_comm]
  rw [e]
  generalize Y * ((u * 4294967296 + d) / Y) = Q at *
  generalize (u * 4294967296 + d) % Y = R at *
  omega
theorem two_aux {Y x Q R q r e N : Nat} (h : Y * Q + R = x) (h2 : Y * q + r = R * 4294967296 + e) (hl : r < Y) (hN : N = x * 4294967296 + e) : N / Y = Q * 4294967296 + q ∧ N % Y = r := by
  have e1 : N = r + Y * (Q * 4294967296 + q) := by
    rw [Nat.mul_add, ← Nat.mul_assoc]
    generalize Y * Q = A at *
    generalize Y * q = B at *
    omega
  rw [e1, Nat.add_mul_div_left _ _ (by omega), Nat.add_mul_mod_self_left, Nat.div_eq_of_lt hl, Nat.mod_eq_of_lt hl, Nat.zero_add]
  exact ⟨rfl, rfl⟩
/-- Two digits, one behind the other. -/
theorem two_digits {Y u d e : Nat} (hp : 0 < Y) : (u * 18446744073709551616 + (d * 4294967296 + e)) / Y = (u * 4294967296 + d) / Y * 4294967296 + ((u * 4294967296 + d) % Y * 4294967296 + e) / Y ∧ (u * 18446744073709551616 + (d * 4294967296 + e)) % Y = ((u * 4294967296 + d) % Y * 4294967296 + e) % Y :=
  two_aux (Nat.div_add_mod (u * 4294967296 + d) Y) (Nat.div_add_mod ((u * 4294967296 + d) % Y * 4294967296 + e) Y) (Nat.mod_lt _ hp) (by omega)
/-- Numbers that are both shifted have the same quotient. -/
theorem shifted {N y p : Nat} (hp : 0 < p) : N * p / (y * p) = N / y ∧ N * p % (y * p) / p = N % y := by
  refine ⟨Nat.mul_div_mul_right _ _ hp, ?_⟩
  rw [Nat.mul_mod_mul_right, Nat.mul_div_cancel _ hp]
end Go.Proofs.YtecmkjefoppbiaaDoor
