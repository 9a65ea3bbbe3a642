/-
  Every word that is no NaN has its place among the others: a whole number, from minus infinity's to infinity's. No Go text is named here.
-/
import Derived.Test.YtmiamfnnccjmeacDoorFlt3
namespace Go.Proofs.YtmiamfnnccjmeacDoor.FB
open Ieee

/-- No NaN. -/
def NN (x : Nat) : Prop := x < 18446744073709551616 ∧ x % 9223372036854775808 ≤ 9218868437227405312
def key (x : Nat) : Int := if x < 9223372036854775808 then x else -((x % 9223372036854775808 : Nat) : Int)
def sv (k : Int) : Int := if 0 ≤ k then vl k.toNat else -(vl (-k).toNat : Int)
theorem vl_zero : vl 0 = 0 := by decide +kernel
theorem vl_pos {r : Nat} (h : 0 < r) : 0 < vl r := by have := vl_lt h; rw [vl_zero] at this; exact this
theorem sv_lt {k l : Int} (h : k < l) : sv k < sv l := by
  unfold sv
  by_cases hk : 0 ≤ k
  · rw [if_pos hk, if_pos (by omega)]
    have := vl_lt (show k.toNat < l.toNat by omega)
    omega
  · rw [if_neg hk]
    have h1 := vl_pos (show 0 < (-k).toNat by omega)
    by_cases hl : 0 ≤ l
    · rw [if_pos hl]; omega
    · rw [if_neg hl]
      have := vl_lt (show (-l).toNat < (-k).toNat by omega)
      omega
theorem cmp_sv (k l : Int) : compare (sv k) (sv l) = compare k l := by
  rcases Int.lt_trichotomy k l with h | h | h
  · rw [Int.compare_eq_lt.2 h, Int.compare_eq_lt.2 (sv_lt h)]
  · rw [h, Int.compare_eq_eq.2 rfl, Int.compare_eq_eq.2 rfl]
  · rw [Int.compare_eq_gt.2 h, Int.compare_eq_gt.2 (sv_lt h)]
theorem cmp_scale (p q : Int) (c : Nat) (hc : 0 < c) : compare (p * c) (q * c) = compare p q := by
  have hc' : (0 : Int) < c := by omega
  rcases Int.lt_trichotomy p q with h | h | h
  · rw [Int.compare_eq_lt.2 h, Int.compare_eq_lt.2 (Int.mul_lt_mul_of_pos_right h hc')]
  · rw [h, Int.compare_eq_eq.2 rfl, Int.compare_eq_eq.2 rfl]
  · rw [Int.compare_eq_gt.2 h, Int.compare_eq_gt.2 (Int.mul_lt_mul_of_pos_right h hc')]

/-- A finite word, read. -/
theorem read_fin {x : Nat} (hx : x < 18446744073709551616) (h : x % 9223372036854775808 < 9218868437227405312) : ∃ s m e, double.read x = .number s m e ∧ -1074 ≤ e ∧ ∀ base : Int, -1074 ≤ base → base ≤ e → sv (key x) = signed s m (e - base).toNat * ((2 ^ (base + 1074).toNat : Nat) : Int) := by
  obtain ⟨m, e, hr, he, hv⟩ := read_pos h
  have hr' : double.read x = .number (x / 9223372036854775808 % 2 == 1) m e := by
    rw [read_eq] at hr ⊢
    rw [Nat.mod_mod] at hr
    by_cases c1 : x % 9223372036854775808 < 4503599627370496
    · rw [if_pos c1] at hr ⊢; injection hr with _ h5 h6; rw [h5, h6]
    · rw [if_neg c1] at hr ⊢
      rw [if_pos h] at hr ⊢; injection hr with _ h5 h6; rw [h5, h6]
  refine ⟨_, m, e, hr', he, fun base hb hbe => ?_⟩
  have hpow : vl (x % 9223372036854775808) = m * 2 ^ (e - base).toNat * 2 ^ (base + 1074).toNat := by
    rw [hv, Nat.mul_assoc, ← Nat.pow_add, show (e - base).toNat + (base + 1074).toNat = (e + 1074).toNat by omega]
  unfold sv key
  by_cases c : x < 9223372036854775808
  · have hs : (x / 9223372036854775808 % 2 == 1) = false := by rw [Nat.div_eq_of_lt c]; rfl
    rw [if_pos c, if_pos (by omega), hs, signed_false, Int.toNat_natCast]
    rw [Nat.mod_eq_of_lt c] at hpow
    rw [hpow, Int.natCast_mul]
  · have hs : (x / 9223372036854775808 % 2 == 1) = true := by rw [show x / 9223372036854775808 = 1 by omega]; rfl
    rw [if_neg c, hs, signed_true]
    rw [Int.neg_mul, ← Int.natCast_mul, ← hpow]
    by_cases h0 : x % 9223372036854775808 = 0
    · rw [h0, vl_zero]; simp [vl_zero]
    · rw [if_neg (by omega), Int.neg_neg, Int.toNat_natCast]

theorem order_fin {a b : Nat} (ha : a < 18446744073709551616) (hb : b < 18446744073709551616) (ha' : a % 9223372036854775808 < 9218868437227405312) (hb' : b % 9223372036854775808 < 9218868437227405312) : double.order a b = some (compare (key a) (key b)) := by
  obtain ⟨s, m, i, ra, hi, va⟩ := read_fin ha ha'
  obtain ⟨t, n, j, rb, hj, vb⟩ := read_fin hb hb'
  unfold Format.order
  rw [ra, rb]
  simp only [Datum.order]
  congr 1
  have e1 := va (min i j) (by omega) (by omega)
  have e2 := vb (min i j) (by omega) (by omega)
  rw [← cmp_sv (key a) (key b), e1, e2, cmp_scale _ _ _ (Nat.two_pow_pos _)]

theorem read_inf {x : Nat} (_hx : x < 18446744073709551616) (h : x % 9223372036854775808 = 9218868437227405312) : double.read x = .infinity (x / 9223372036854775808 % 2 == 1) := by
  rw [read_eq, h]; rfl
theorem key_inf {x : Nat} (hx : x < 18446744073709551616) (h : x % 9223372036854775808 = 9218868437227405312) : (key x = 9218868437227405312 ∧ (x / 9223372036854775808 % 2 == 1) = false) ∨ (key x = -9218868437227405312 ∧ (x / 9223372036854775808 % 2 == 1) = true) := by
  unfold key
  by_cases c : x < 9223372036854775808
  · left; rw [if_pos c]
    refine ⟨by omega, ?_⟩
    rw [Nat.div_eq_of_lt c]; rfl
  · right; rw [if_neg c, h]
    refine ⟨rfl, ?_⟩
    rw [show x / 9223372036854775808 = 1 by omega]; rfl
theorem key_bd {x : Nat} (h : x % 9223372036854775808 < 9218868437227405312) : -9218868437227405312 < key x ∧ key x < 9218868437227405312 := by
  unfold key; split <;> omega

theorem order_key {a b : Nat} (ha : NN a) (hb : NN b) : double.order a b = some (compare (key a) (key b)) := by
  obtain ⟨ha1, ha2⟩ := ha
  obtain ⟨hb1, hb2⟩ := hb
  rcases Nat.lt_or_eq_of_le ha2 with ha3 | ha3
  · rcases Nat.lt_or_eq_of_le hb2 with hb3 | hb3
    · exact order_fin ha1 hb1 ha3 hb3
    · obtain ⟨s, m, i, ra, _⟩ := read_fin ha1 ha3
      have hk := key_bd ha3
      unfold Format.order
      rw [ra, read_inf hb1 hb3]
      simp only [Datum.order]
      congr 1
      rcases key_inf hb1 hb3 with ⟨h1, h2⟩ | ⟨h1, h2⟩
      · rw [h1, h2, Int.compare_eq_lt.2 (by omega)]; rfl
      · rw [h1, h2, Int.compare_eq_gt.2 (by omega)]; rfl
  · rcases Nat.lt_or_eq_of_le hb2 with hb3 | hb3
    · obtain ⟨s, m, i, rb, _⟩ := read_fin hb1 hb3
      have hk := key_bd hb3
      unfold Format.order
      rw [rb, read_inf ha1 ha3]
      simp only [Datum.order]
      congr 1
      rcases key_inf ha1 ha3 with ⟨h1, h2⟩ | ⟨h1, h2⟩
      · rw [h1, h2, Int.compare_eq_gt.2 (by omega)]; rfl
      · rw [h1, h2, Int.compare_eq_lt.2 (by omega)]; rfl
    · unfold Format.order
      rw [read_inf ha1 ha3, read_inf hb1 hb3]
      simp only [Datum.order]
      congr 1
      rcases key_inf ha1 ha3 with ⟨h1, h2⟩ | ⟨h1, h2⟩ <;> rcases key_inf hb1 hb3 with ⟨h3, h4⟩ | ⟨h3, h4⟩ <;> rw [h1, h2, h3, h4] <;> decide
end Go.Proofs.YtmiamfnnccjmeacDoor.FB
