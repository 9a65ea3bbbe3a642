/-
  How far rounding goes: at most a half of the last place. No Go text is named here.
-/
import Derived.Test.YtmiamfnnccjmeacDoorFltP
namespace Go.Proofs.YtmiamfnnccjmeacDoor.FB
open Ieee

theorem cut_err (neg : Bool) (n drop : Nat) : 2 * (Toward.even.cut neg n drop * 2 ^ drop) ≤ 2 * n + 2 ^ drop ∧ 2 * n ≤ 2 * (Toward.even.cut neg n drop * 2 ^ drop) + 2 ^ drop := by
  unfold Toward.cut
  simp only
  by_cases hd : drop ≤ n.log2 + 2
  · rw [Nat.min_eq_left hd, Nat.one_shiftLeft]
    have hdm := Nat.div_add_mod n (2 ^ drop)
    have hml := Nat.mod_lt n (Nat.two_pow_pos drop)
    generalize n / 2 ^ drop = q at *
    generalize n % 2 ^ drop = r at *
    generalize 2 ^ drop = D at *
    by_cases c1 : D < 2 * r
    · have e1 : decide (D < 2 * r) = true := decide_eq_true c1
      rw [e1, Bool.true_or]
      have : (q + true.toNat) * D = D * q + D := by show (q + 1) * D = _; rw [Nat.add_mul, Nat.one_mul, Nat.mul_comm]
      rw [this]; omega
    · have e1 : decide (D < 2 * r) = false := decide_eq_false c1
      rw [e1, Bool.false_or]
      by_cases c2 : D = 2 * r
      · generalize ((D == 2 * r) && q % 2 == 1) = b
        cases b with
        | true =>
          have : (q + true.toNat) * D = D * q + D := by show (q + 1) * D = _; rw [Nat.add_mul, Nat.one_mul, Nat.mul_comm]
          rw [this]; omega
        | false =>
          have : (q + false.toNat) * D = D * q := by show (q + 0) * D = _; rw [Nat.add_zero, Nat.mul_comm]
          rw [this]; omega
      · have e2 : (D == 2 * r) = false := by rw [beq_eq_false_iff_ne]; exact c2
        rw [e2, Bool.false_and]
        have : (q + false.toNat) * D = D * q := by show (q + 0) * D = _; rw [Nat.add_zero, Nat.mul_comm]
        rw [this]; omega
  · rw [Nat.min_eq_right (by omega), Nat.one_shiftLeft]
    by_cases h0 : n = 0
    · subst h0; simp
    have hn : n < 2 ^ (n.log2 + 1) := Nat.lt_log2_self
    have e : 2 ^ (n.log2 + 2) = 2 * 2 ^ (n.log2 + 1) := by rw [Nat.pow_succ 2 (n.log2 + 1)]; omega
    have hn2 : n < 2 ^ (n.log2 + 2) := by omega
    rw [Nat.div_eq_of_lt hn2, Nat.mod_eq_of_lt hn2]
    have e1 : decide (2 ^ (n.log2 + 2) < 2 * n) = false := by rw [decide_eq_false_iff_not]; omega
    have e2 : ((2 ^ (n.log2 + 2) == 2 * n) : Bool) = false := by rw [beq_eq_false_iff_ne]; omega
    rw [e1, e2]
    have h3 : 2 ^ (n.log2 + 2) ≤ 2 ^ drop := Nat.pow_le_pow_right (by decide) (by omega)
    simp only [Bool.false_and, Bool.false_or, Bool.toNat_false, Nat.add_zero, Nat.zero_mul, Nat.mul_zero]
    omega
/-- What a rung and what stands on it stand for. -/
theorem vl_parts (q c : Nat) (hc : c ≤ 9007199254740992) (hq : q = 0 ∨ 4503599627370496 ≤ c) : vl (q * 4503599627370496 + c) = c * 2 ^ q := by
  unfold vl
  by_cases h1 : q * 4503599627370496 + c < 4503599627370496
  · rw [if_pos h1]
    have : q = 0 := by
      rcases Nat.eq_zero_or_pos q with h | h
      · exact h
      · have : 4503599627370496 ≤ q * 4503599627370496 := Nat.le_mul_of_pos_left _ h
        omega
    subst this; simp
  · rw [if_neg h1]
    by_cases h2 : c = 9007199254740992
    · subst h2
      have e1 : (q * 4503599627370496 + 9007199254740992) % 4503599627370496 = 0 := by omega
      have e2 : (q * 4503599627370496 + 9007199254740992) / 4503599627370496 - 1 = q + 1 := by omega
      rw [e1, e2, Nat.pow_succ]; omega
    · have hc52 : 4503599627370496 ≤ c := by
        rcases hq with rfl | h
        · omega
        · exact h
      have e1 : 4503599627370496 + (q * 4503599627370496 + c) % 4503599627370496 = c := by omega
      have e2 : (q * 4503599627370496 + c) / 4503599627370496 - 1 = q := by omega
      rw [e1, e2]
/-- Rounding goes at most a half of the last place astray: by a 2^53rd of the number, or by a half of the least one. -/
theorem near_err (neg : Bool) (mag : Nat) (place : Int) (hfin : double.nearest neg mag place % 9223372036854775808 < 9218868437227405312) :
    (9007199254740992 * (vl (double.nearest neg mag place % 9223372036854775808) * 2 ^ (-1074 - place).toNat) ≤ 9007199254740993 * (mag * 2 ^ (place + 1074).toNat) ∧ 9007199254740991 * (mag * 2 ^ (place + 1074).toNat) ≤ 9007199254740992 * (vl (double.nearest neg mag place % 9223372036854775808) * 2 ^ (-1074 - place).toNat)) ∨
    (2 * (vl (double.nearest neg mag place % 9223372036854775808) * 2 ^ (-1074 - place).toNat) ≤ 2 * (mag * 2 ^ (place + 1074).toNat) + 2 ^ (-1074 - place).toNat ∧ 2 * (mag * 2 ^ (place + 1074).toNat) ≤ 2 * (vl (double.nearest neg mag place % 9223372036854775808) * 2 ^ (-1074 - place).toNat) + 2 ^ (-1074 - place).toNat) := by
  have hmod : ∀ r, r ≤ 9218868437227405312 → double.word neg r % 9223372036854775808 = r := by
    intro r hr
    unfold Format.word
    rw [sw]
    split <;> omega
  unfold Format.nearest at hfin ⊢
  by_cases h0 : mag = 0
  · rw [if_pos h0] at hfin ⊢
    rw [hmod 0 (by decide)]
    left
    rw [h0, show vl 0 = 0 by decide +kernel]; simp
  rw [if_neg h0] at hfin ⊢
  simp only at hfin ⊢
  have hf : (double.fractionBits : Int) = 52 := by rfl
  rw [bn, lp, hf, ir] at hfin ⊢
  rw [hmod _ (Nat.min_le_right _ _)] at hfin ⊢
  have hmin : ∀ v : Nat, min v 9218868437227405312 < 9218868437227405312 → min v 9218868437227405312 = v := by intro v hv; omega
  rw [hmin _ hfin]
  clear hfin hmin hmod
  have h1 : mag < 2 ^ (mag.log2 + 1) := Nat.lt_log2_self
  have h2 : 2 ^ mag.log2 ≤ mag := Nat.log2_self_le h0
  have h53 : (2 : Nat) ^ 53 = 9007199254740992 := by decide
  have h52 : (2 : Nat) ^ 52 = 4503599627370496 := by decide
  by_cases hc : place + (mag.log2 : Int) - 52 ≤ -1074
  · right
    rw [Int.max_eq_right hc]
    have e0 : ((-1074 : Int) - -1074).toNat = 0 := by decide
    rw [e0]
    have ea : (place - -1074).toNat = (place + 1074).toNat := by omega
    rw [ea]
    have hle : Toward.even.cut neg (mag <<< (place + 1074).toNat) (-1074 - place).toNat ≤ 2 ^ 53 := by
      refine cut_le2 _ _ _ _ ?_
      rw [Nat.shiftLeft_eq]
      by_cases hp : -1074 ≤ place
      · have e1 : (-1074 - place).toNat = 0 := by omega
        rw [e1]
        have : mag * 2 ^ (place + 1074).toNat < 2 ^ (mag.log2 + 1) * 2 ^ (place + 1074).toNat := Nat.mul_lt_mul_of_pos_right h1 (Nat.two_pow_pos _)
        rw [← Nat.pow_add] at this
        have h2 : 2 ^ (mag.log2 + 1 + (place + 1074).toNat) ≤ 2 ^ 53 := Nat.pow_le_pow_right (by decide) (by omega)
        omega
      · have e1 : (place + 1074).toNat = 0 := by omega
        rw [e1, Nat.pow_zero, Nat.mul_one, ← Nat.pow_add]
        exact Nat.le_trans (Nat.le_of_lt h1) (Nat.pow_le_pow_right (by decide) (by omega))
    rw [h53] at hle
    have hvl := vl_parts 0 _ hle (.inl rfl)
    rw [hvl, Nat.pow_zero, Nat.mul_one]
    have := cut_err neg (mag <<< (place + 1074).toNat) (-1074 - place).toNat
    rw [Nat.shiftLeft_eq] at this ⊢
    exact this
  · left
    rw [Int.max_eq_left (by omega)]
    generalize hL : mag.log2 = L at *
    generalize ha : (place + 1074).toNat = a at *
    generalize hb : (-1074 - place).toNat = b at *
    obtain ⟨q, hq⟩ : ∃ q : Nat, place + (L : Int) - 52 - -1074 = q := ⟨(place + (L : Int) - 52 - -1074).toNat, by omega⟩
    rw [hq]
    have e1 : (place - (place + (L : Int) - 52)).toNat = 52 - L := by omega
    have e2 : (place + (L : Int) - 52 - place).toNat = L - 52 := by omega
    rw [e1, e2, Int.toNat_natCast]
    have hlo : 2 ^ 52 ≤ Toward.even.cut neg (mag <<< (52 - L)) (L - 52) := by
      refine cut_ge _ _ _ _ ?_
      rw [Nat.shiftLeft_eq]
      by_cases hp : L ≤ 52
      · rw [show L - 52 = 0 by omega, Nat.pow_zero, Nat.mul_one]
        have : 2 ^ L * 2 ^ (52 - L) ≤ mag * 2 ^ (52 - L) := Nat.mul_le_mul_right _ h2
        rw [← Nat.pow_add, show L + (52 - L) = 52 by omega] at this
        exact this
      · rw [show 52 - L = 0 by omega, Nat.pow_zero, Nat.mul_one, ← Nat.pow_add, show 52 + (L - 52) = L by omega]
        exact h2
    have hhi : Toward.even.cut neg (mag <<< (52 - L)) (L - 52) ≤ 2 ^ 53 := by
      refine cut_le2 _ _ _ _ ?_
      rw [Nat.shiftLeft_eq]
      by_cases hp : L ≤ 52
      · rw [show L - 52 = 0 by omega, Nat.pow_zero, Nat.mul_one]
        have : mag * 2 ^ (52 - L) < 2 ^ (L + 1) * 2 ^ (52 - L) := Nat.mul_lt_mul_of_pos_right h1 (Nat.two_pow_pos _)
        rw [← Nat.pow_add, show L + 1 + (52 - L) = 53 by omega] at this
        omega
      · rw [show 52 - L = 0 by omega, Nat.pow_zero, Nat.mul_one, ← Nat.pow_add, show 53 + (L - 52) = L + 1 by omega]
        exact Nat.le_of_lt h1
    rw [h53] at hhi
    rw [h52] at hlo
    rw [vl_parts q _ hhi (.inr hlo)]
    have herr := cut_err neg (mag <<< (52 - L)) (L - 52)
    rw [Nat.shiftLeft_eq] at herr ⊢
    by_cases hp : L ≤ 52
    · rw [show L - 52 = 0 by omega] at herr ⊢
      have hx := cut_exact neg (mag * 2 ^ (52 - L)) 0
      rw [Nat.pow_zero, Nat.mul_one] at hx
      rw [hx]
      have : mag * 2 ^ (52 - L) * 2 ^ q * 2 ^ b = mag * 2 ^ a := by
        rw [Nat.mul_assoc, Nat.mul_assoc, ← Nat.pow_add, ← Nat.pow_add]
        congr 2; omega
      rw [this]; omega
    · rw [show 52 - L = 0 by omega, Nat.pow_zero, Nat.mul_one] at herr ⊢
      generalize Toward.even.cut neg mag (L - 52) = c at herr ⊢
      have e3 : c * 2 ^ q * 2 ^ b = c * 2 ^ (L - 52) * 2 ^ a := by
        rw [Nat.mul_assoc, Nat.mul_assoc, ← Nat.pow_add, ← Nat.pow_add]
        congr 2; omega
      rw [e3]
      have hbig : 4503599627370496 * 2 ^ (L - 52) ≤ mag := by
        rw [← h52, ← Nat.pow_add, show 52 + (L - 52) = L by omega]; exact h2
      generalize 2 ^ (L - 52) = D at *
      generalize 2 ^ a = P at *
      generalize hcd : c * D = X at *
      have k1 : 9007199254740992 * X ≤ 9007199254740993 * mag := by omega
      have k2 : 9007199254740991 * mag ≤ 9007199254740992 * X := by omega
      have m1 := Nat.mul_le_mul_right P k1
      have m2 := Nat.mul_le_mul_right P k2
      rw [Nat.mul_assoc, Nat.mul_assoc] at m1 m2
      exact ⟨m1, m2⟩
end Go.Proofs.YtmiamfnnccjmeacDoor.FB
