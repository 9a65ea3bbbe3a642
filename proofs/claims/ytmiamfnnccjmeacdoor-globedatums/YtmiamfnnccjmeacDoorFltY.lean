/-
  Quotients of words, as fractions. No Go text is named here.
-/
import Derived.Test.YtmiamfnnccjmeacDoorFltW
namespace Go.Proofs.YtmiamfnnccjmeacDoor.FB
open Ieee

theorem quo_nat {m n more : Nat} (hn : n ≠ 0) (hm : m ≠ 0) (_hml : m.log2 ≤ 52) (hmore : more = 54 + n.log2 - m.log2) :
    18014398509481984 * (2 * (m <<< more)) ≤ 18014398509481985 * ((2 * (m <<< more / n) + (m <<< more % n != 0).toNat) * n) ∧ 18014398509481983 * ((2 * (m <<< more / n) + (m <<< more % n != 0).toNat) * n) ≤ 18014398509481984 * (2 * (m <<< more)) := by
  have h1 : 2 ^ m.log2 ≤ m := Nat.log2_self_le hm
  have h2 : n < 2 ^ (n.log2 + 1) := Nat.lt_log2_self
  rw [Nat.shiftLeft_eq]
  have hq : 2 ^ 53 ≤ m * 2 ^ more / n := by
    refine (Nat.le_div_iff_mul_le (Nat.pos_of_ne_zero hn)).2 ?_
    have a1 : 2 ^ 53 * n ≤ 2 ^ 53 * 2 ^ (n.log2 + 1) := Nat.mul_le_mul_left _ (Nat.le_of_lt h2)
    have a2 : 2 ^ m.log2 * 2 ^ more ≤ m * 2 ^ more := Nat.mul_le_mul_right _ h1
    rw [← Nat.pow_add] at a1 a2
    have a3 : 2 ^ (53 + (n.log2 + 1)) ≤ 2 ^ (m.log2 + more) := Nat.pow_le_pow_right (by decide) (by omega)
    omega
  have hdm := Nat.div_add_mod (m * 2 ^ more) n
  have hml2 := Nat.mod_lt (m * 2 ^ more) (Nat.pos_of_ne_zero hn)
  have h53 : (2 : Nat) ^ 53 = 9007199254740992 := by decide
  rw [h53] at hq
  generalize m * 2 ^ more = d at *
  generalize d / n = q at *
  generalize d % n = r at *
  have hqn : 9007199254740992 * n ≤ n * q := by rw [Nat.mul_comm n q]; exact Nat.mul_le_mul_right _ hq
  by_cases c : r = 0
  · subst c
    have e : ((0 : Nat) != 0).toNat = 0 := rfl
    rw [e, Nat.add_zero, Nat.mul_assoc, Nat.mul_comm q n]
    omega
  · have e : (r != 0).toNat = 1 := by rw [show (r != 0) = true by simp [c]]; rfl
    rw [e, Nat.add_mul, Nat.mul_assoc, Nat.mul_comm q n, Nat.one_mul]
    omega
/-- Apart by at most a 2^52nd of B, and the least number. -/
def Off2 (B r p : Rat) : Prop := 4503599627370496 * (r - p) ≤ B + 4503599627370496 * ulp ∧ 4503599627370496 * (p - r) ≤ B + 4503599627370496 * ulp
theorem div_val {x y : Nat} (hx : x < 18446744073709551616) (hy : y < 18446744073709551616) (fx : x % 9223372036854775808 < 9218868437227405312) (fy : y % 9223372036854775808 < 9218868437227405312) (hy0 : y % 9223372036854775808 ≠ 0) (hf : FD x y % 9223372036854775808 < 9218868437227405312) (B p : Rat) (hp : p * val y = val x) (h1 : -B ≤ p) (h2 : p ≤ B) : Off2 B (val (FD x y)) p := by
  obtain ⟨s, m, e, rx, he, vx⟩ := num_val hx fx
  obtain ⟨t, n, f, ry, hf2, vy⟩ := num_val hy fy
  have hn : n ≠ 0 := fun c => hy0 ((num_bd ry).2.2.2.1 c)
  have hmb := (num_bd rx).1
  have hml : m.log2 ≤ 52 := by
    rcases Nat.eq_zero_or_pos m with c | c
    · subst c; decide
    · have : m.log2 < 53 := (Nat.log2_lt (by omega)).2 (by omega)
      omega
  have hfr : double.fractionBits = 52 := rfl
  generalize hmore : 54 + n.log2 - m.log2 = more
  have hmore2 : 52 + 2 + n.log2 - m.log2 = more := by omega
  have eFD : FD x y = double.nearest (s ^^ t) (2 * (m <<< more / n) + (m <<< more % n != 0).toNat) (e - f - more - 1) := by
    unfold FD Format.div
    rw [rx, ry]
    simp only [Datum.quotient]
    rw [if_neg hn, hfr, hmore2]
    rfl
  rw [eFD] at hf ⊢
  have hu := ulp_pos
  have u1 := ulp_one
  -- what stands below and above
  have hyp : (0 : Rat) < ((n * 2 ^ (f + 1074).toNat : Nat) : Rat) * ulp := Rat.mul_pos (Rat.natCast_pos.2 (Nat.mul_pos (Nat.pos_of_ne_zero hn) (Nat.two_pow_pos _))) hu
  generalize hmag : 2 * (m <<< more / n) + (m <<< more % n != 0).toNat = mag at hf ⊢
  generalize hpl : e - f - more - 1 = pl at hf ⊢
  have hD : (0 : Rat) < ((2 ^ (-1074 - pl).toNat : Nat) : Rat) := Rat.natCast_pos.2 (Nat.two_pow_pos _)
  obtain ⟨R, hR, b1, b2, b0⟩ := near_rat (s ^^ t) mag pl hf (((mag * 2 ^ (pl + 1074).toNat : Nat) : Rat) * ulp * (((2 ^ (-1074 - pl).toNat : Nat) : Rat))⁻¹) (by
    have := Rat.mul_inv_cancel _ (show ((2 ^ (-1074 - pl).toNat : Nat) : Rat) ≠ 0 by grind)
    rw [Rat.mul_assoc, Rat.mul_comm _ ((2 ^ (-1074 - pl).toNat : Nat) : Rat), this, Rat.mul_one])
  have hcore : ∀ X : Rat, X * (((n * 2 ^ (f + 1074).toNat : Nat) : Rat) * ulp) = ((m * 2 ^ (e + 1074).toNat : Nat) : Rat) * ulp → 18014398509481984 * X ≤ 18014398509481985 * (((mag * 2 ^ (pl + 1074).toNat : Nat) : Rat) * ulp * (((2 ^ (-1074 - pl).toNat : Nat) : Rat))⁻¹) ∧ 18014398509481983 * (((mag * 2 ^ (pl + 1074).toNat : Nat) : Rat) * ulp * (((2 ^ (-1074 - pl).toNat : Nat) : Rat))⁻¹) ≤ 18014398509481984 * X := by
    intro X hX
    have hDi := Rat.mul_inv_cancel _ (show ((2 ^ (-1074 - pl).toNat : Nat) : Rat) ≠ 0 by grind)
    have hN : m * 2 ^ (e + 1074).toNat * 2 ^ (-1074 - pl).toNat * vl 4607182418800017408 = 2 * (m <<< more) * 2 ^ ((pl + 1074).toNat + (f + 1074).toNat) := by
      obtain ⟨K, hK, eK⟩ := vl_one
      rw [eK]
      clear eK
      rw [Nat.shiftLeft_eq, Nat.mul_assoc, Nat.mul_assoc, ← Nat.pow_add, ← Nat.pow_add, ← Nat.mul_assoc, Nat.mul_comm 2 m, Nat.mul_assoc m, Nat.mul_assoc m, ← Nat.pow_succ', ← Nat.pow_add]
      rw [show (e + 1074).toNat + ((-1074 - pl).toNat + K) = more + 1 + ((pl + 1074).toNat + (f + 1074).toNat) by omega]
    have hM : mag * 2 ^ (pl + 1074).toNat * (n * 2 ^ (f + 1074).toNat) = mag * n * 2 ^ ((pl + 1074).toNat + (f + 1074).toNat) := by
      rw [Nat.mul_mul_mul_comm, ← Nat.pow_add]
    have hq : 18014398509481984 * (2 * (m <<< more)) ≤ 18014398509481985 * (mag * n) ∧ 18014398509481983 * (mag * n) ≤ 18014398509481984 * (2 * (m <<< more)) := by
      by_cases c : m = 0
      · subst c
        have : mag = 0 := by rw [← hmag]; simp
        rw [this]; simp
      · rw [← hmag]; exact quo_nat hn c hml hmore.symm
    have c1 : ((m * 2 ^ (e + 1074).toNat : Nat) : Rat) * ((2 ^ (-1074 - pl).toNat : Nat) : Rat) * ((vl 4607182418800017408 : Nat) : Rat) = ((2 * (m <<< more) : Nat) : Rat) * ((2 ^ ((pl + 1074).toNat + (f + 1074).toNat) : Nat) : Rat) := cast4 _ _ _ _ _ hN
    have c2 : ((mag * 2 ^ (pl + 1074).toNat : Nat) : Rat) * ((n * 2 ^ (f + 1074).toNat : Nat) : Rat) = ((mag * n : Nat) : Rat) * ((2 ^ ((pl + 1074).toNat + (f + 1074).toNat) : Nat) : Rat) := by rw [← Rat.natCast_mul, ← Rat.natCast_mul, hM]
    have q1 : (18014398509481984 : Rat) * ((2 * (m <<< more) : Nat) : Rat) ≤ 18014398509481985 * ((mag * n : Nat) : Rat) := by exact_mod_cast hq.1
    have q2 : (18014398509481983 : Rat) * ((mag * n : Nat) : Rat) ≤ 18014398509481984 * ((2 * (m <<< more) : Nat) : Rat) := by exact_mod_cast hq.2
    have hP : (0 : Rat) ≤ ((2 ^ ((pl + 1074).toNat + (f + 1074).toNat) : Nat) : Rat) := Rat.natCast_nonneg
    clear hN hM hq hR b1 b2 b0 eFD
    generalize ((m * 2 ^ (e + 1074).toNat : Nat) : Rat) = a at *
    generalize ((n * 2 ^ (f + 1074).toNat : Nat) : Rat) = b at *
    generalize ((2 ^ (-1074 - pl).toNat : Nat) : Rat) = d at *
    generalize ((mag * 2 ^ (pl + 1074).toNat : Nat) : Rat) = c at *
    generalize ((2 ^ ((pl + 1074).toNat + (f + 1074).toNat) : Nat) : Rat) = P at *
    generalize ((2 * (m <<< more) : Nat) : Rat) = g at *
    generalize ((mag * n : Nat) : Rat) = k at *
    generalize ((vl 4607182418800017408 : Nat) : Rat) = v at *
    generalize d⁻¹ = i at *
    have hW : 0 ≤ P * (ulp * ulp) := Rat.mul_nonneg hP (Rat.mul_nonneg (by grind) (by grind))
    have w1 := Rat.mul_le_mul_of_nonneg_right q1 hW
    have w2 := Rat.mul_le_mul_of_nonneg_right q2 hW
    have x1 : g * (P * (ulp * ulp)) = X * (b * ulp) * d := by
      have : g * P = a * d * v := c1.symm
      have k1 : g * (P * (ulp * ulp)) = (g * P) * ulp * ulp := by grind
      have k2 : a * d * v * ulp * ulp = a * ulp * d * (v * ulp) := by grind
      rw [k1, this, k2, u1, hX]; grind
    have x2 : k * (P * (ulp * ulp)) = c * ulp * i * (b * ulp) * d := by
      have k1 : k * (P * (ulp * ulp)) = (k * P) * ulp * ulp := by grind
      have k2 : c * ulp * i * (b * ulp) * d = (c * b) * ulp * ulp * (d * i) := by grind
      rw [k1, k2, ← c2, hDi]; grind
    have bd : 0 < b * ulp * d := Rat.mul_pos hyp hD
    refine ⟨?_, ?_⟩
    · refine Rat.le_of_mul_le_mul_right (c := b * ulp * d) ?_ bd
      grind
    · refine Rat.le_of_mul_le_mul_right (c := b * ulp * d) ?_ bd
      grind
  have hyi := Rat.mul_inv_cancel _ (show ((n * 2 ^ (f + 1074).toNat : Nat) : Rat) * ulp ≠ 0 by grind)
  obtain ⟨k1, k2⟩ := hcore (((m * 2 ^ (e + 1074).toNat : Nat) : Rat) * ulp * (((n * 2 ^ (f + 1074).toNat : Nat) : Rat) * ulp)⁻¹) (by rw [Rat.mul_assoc, Rat.mul_comm _ (((n * 2 ^ (f + 1074).toNat : Nat) : Rat) * ulp), hyi, Rat.mul_one])
  rw [hR]
  rw [vx, vy] at hp
  clear hcore hR eFD hf vx vy
  generalize ((mag * 2 ^ (pl + 1074).toNat : Nat) : Rat) * ulp * (((2 ^ (-1074 - pl).toNat : Nat) : Rat))⁻¹ = T' at *
  generalize ((n * 2 ^ (f + 1074).toNat : Nat) : Rat) * ulp = yy at *
  generalize ((m * 2 ^ (e + 1074).toNat : Nat) : Rat) * ulp = xx at *
  generalize hT : xx * yy⁻¹ = T at *
  have hTy : T * yy = xx := by rw [← hT, Rat.mul_assoc, Rat.mul_comm _ yy, hyi, Rat.mul_one]
  have can : ∀ q : Rat, q * yy = T * yy → q = T := fun q hq => by
    have : q * yy * yy⁻¹ = T * yy * yy⁻¹ := by rw [hq]
    rw [Rat.mul_assoc, Rat.mul_assoc, hyi, Rat.mul_one, Rat.mul_one] at this
    exact this
  have hpT : p = (if (s ^^ t) = true then -1 else 1) * T := by
    cases s <;> cases t <;> simp only [Bool.xor_self, Bool.xor_false, Bool.xor_true, Bool.false_eq_true, if_true, if_false, Bool.not_false] at hp ⊢
    · have := can p (by grind); grind
    · have := can (-p) (by grind); grind
    · have := can (-p) (by grind); grind
    · have := can p (by grind); grind
  rw [hpT] at h1 h2 ⊢
  unfold Off2
  generalize (s ^^ t) = sg at *
  cases sg <;> simp only [Bool.false_eq_true, if_true, if_false] at h1 h2 ⊢ <;> constructor <;> grind
end Go.Proofs.YtmiamfnnccjmeacDoor.FB
