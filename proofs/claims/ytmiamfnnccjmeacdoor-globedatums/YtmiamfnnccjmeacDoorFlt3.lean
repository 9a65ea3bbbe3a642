/-
  Numbers with a point, as bits: positive ones stand as their words do; what is exact: doubling, halving. No Go text is named here.
-/
import Derived.Test.YtmiamfnnccjmeacDoorFlt2
namespace Go.Proofs.YtmiamfnnccjmeacDoor.FB
open Ieee

/-- What a positive word stands for, in units of the least one. -/
def vl (r : Nat) : Nat := if r < 4503599627370496 then r else (4503599627370496 + r % 4503599627370496) * 2 ^ (r / 4503599627370496 - 1)

theorem vl_lt {a b : Nat} (h : a < b) : vl a < vl b := by
  unfold vl
  by_cases ha : a < 4503599627370496
  · rw [if_pos ha]
    by_cases hb : b < 4503599627370496
    · rw [if_pos hb]; exact h
    · rw [if_neg hb]
      have h1 : 4503599627370496 + b % 4503599627370496 ≤ (4503599627370496 + b % 4503599627370496) * 2 ^ (b / 4503599627370496 - 1) := Nat.le_mul_of_pos_right _ (Nat.two_pow_pos _)
      omega
  · rw [if_neg ha, if_neg (by omega)]
    have hdm := Nat.div_add_mod a 4503599627370496
    have hdm2 := Nat.div_add_mod b 4503599627370496
    have hma := Nat.mod_lt a (show 0 < 4503599627370496 by decide)
    have hmb := Nat.mod_lt b (show 0 < 4503599627370496 by decide)
    by_cases hq : a / 4503599627370496 = b / 4503599627370496
    · rw [hq]
      exact Nat.mul_lt_mul_of_pos_right (by rw [hq] at hdm; omega) (Nat.two_pow_pos _)
    · have hlt : a / 4503599627370496 < b / 4503599627370496 := by omega
      have h1 : 1 ≤ a / 4503599627370496 := by omega
      have e1 : (4503599627370496 + a % 4503599627370496) * 2 ^ (a / 4503599627370496 - 1) < (2 * 4503599627370496) * 2 ^ (a / 4503599627370496 - 1) := Nat.mul_lt_mul_of_pos_right (by omega) (Nat.two_pow_pos _)
      have e2 : (2 * 4503599627370496) * 2 ^ (a / 4503599627370496 - 1) = 4503599627370496 * 2 ^ (a / 4503599627370496) := by
        obtain ⟨u, hu⟩ : ∃ u, a / 4503599627370496 = u + 1 := ⟨a / 4503599627370496 - 1, by omega⟩
        rw [hu, Nat.add_sub_cancel, Nat.pow_succ]
        omega
      have e3 : 4503599627370496 * 2 ^ (a / 4503599627370496) ≤ 4503599627370496 * 2 ^ (b / 4503599627370496 - 1) := Nat.mul_le_mul_left _ (Nat.pow_le_pow_right (by decide) (by omega))
      have e4 : 4503599627370496 * 2 ^ (b / 4503599627370496 - 1) ≤ (4503599627370496 + b % 4503599627370496) * 2 ^ (b / 4503599627370496 - 1) := Nat.mul_le_mul_right _ (by omega)
      omega

/-- A positive finite word, read. -/
theorem read_pos {r : Nat} (h : r < 9218868437227405312) : ∃ m e, double.read r = .number false m e ∧ -1074 ≤ e ∧ vl r = m * 2 ^ (e + 1074).toNat := by
  rw [read_eq]
  have h1 : r % 9223372036854775808 = r := Nat.mod_eq_of_lt (by omega)
  have h2 : (r / 9223372036854775808 % 2 == 1) = false := by rw [Nat.div_eq_of_lt (by omega)]; rfl
  rw [h1, h2]
  unfold vl
  by_cases c : r < 4503599627370496
  · rw [if_pos c, if_pos c]
    exact ⟨_, _, rfl, by decide, by simp⟩
  · rw [if_neg c, if_pos h, if_neg c]
    refine ⟨_, _, rfl, by omega, ?_⟩
    congr 2
    omega
theorem num_pos {r : Nat} (h : r < 9218868437227405312) : Num r := by obtain ⟨m, e, h, _⟩ := read_pos h; exact ⟨_, _, _, h⟩

theorem order_pos {a b : Nat} (ha : a < 9218868437227405312) (hb : b < 9218868437227405312) : double.order a b = some (compare a b) := by
  obtain ⟨m, i, ra, hi, va⟩ := read_pos ha
  obtain ⟨n, j, rb, hj, vb⟩ := read_pos hb
  unfold Format.order
  rw [ra, rb]
  simp only [Datum.order, signed_false]
  congr 1
  generalize hbase : min i j = base
  have hbi : base ≤ i := by omega
  have hbj : base ≤ j := by omega
  have hb0 : -1074 ≤ base := by omega
  have ea : vl a = m * 2 ^ (i - base).toNat * 2 ^ (base + 1074).toNat := by
    rw [va, Nat.mul_assoc, ← Nat.pow_add]; congr 2; omega
  have eb : vl b = n * 2 ^ (j - base).toNat * 2 ^ (base + 1074).toNat := by
    rw [vb, Nat.mul_assoc, ← Nat.pow_add]; congr 2; omega
  generalize m * 2 ^ (i - base).toNat = p at *
  generalize n * 2 ^ (j - base).toNat = q at *
  rcases Nat.lt_trichotomy a b with h | h | h
  · have := vl_lt h
    rw [ea, eb] at this
    have hpq : p < q := Nat.lt_of_mul_lt_mul_right this
    rw [Nat.compare_eq_lt.2 h, Int.compare_eq_lt.2 (by omega)]
  · subst h
    have hpq : p = q := by
      rw [ea] at eb
      exact Nat.eq_of_mul_eq_mul_right (Nat.two_pow_pos _) eb
    rw [hpq]
    rw [Nat.compare_eq_eq.2 rfl, Int.compare_eq_eq.2 rfl]
  · have := vl_lt h
    rw [ea, eb] at this
    have hpq : q < p := Nat.lt_of_mul_lt_mul_right this
    rw [Nat.compare_eq_gt.2 h, Int.compare_eq_gt.2 (by omega)]

theorem cut_exact (neg : Bool) (M t : Nat) : Toward.even.cut neg (M * 2 ^ t) t = M := by
  unfold Toward.cut
  simp only
  by_cases h0 : M = 0
  · subst h0; simp
  have hlog : t ≤ (M * 2 ^ t).log2 + 2 := by
    have : t ≤ (M * 2 ^ t).log2 := (Nat.le_log2 (Nat.mul_ne_zero h0 (Nat.pos_iff_ne_zero.1 (Nat.two_pow_pos _)))).2 (Nat.le_mul_of_pos_left _ (by omega))
    omega
  rw [Nat.min_eq_left hlog, Nat.one_shiftLeft, Nat.mul_div_cancel _ (Nat.two_pow_pos _), Nat.mul_mod_left]
  have : (decide (2 ^ t < 2 * 0) || (2 ^ t == 2 * 0 && M % 2 == 1)) = false := by
    have := Nat.two_pow_pos t
    simp
  rw [this]; rfl

/-- A number that the format has is written as itself. -/
theorem nearest_exact (neg : Bool) (M t : Nat) (place e : Int) (hM : M < 9007199254740992) (h0 : 0 < M) (he : place + t = e) (he1 : -1074 ≤ e) (he2 : e ≤ 971) (hn : 4503599627370496 ≤ M ∨ e = -1074) :
    double.nearest neg (M * 2 ^ t) place = double.word neg ((e + 1074).toNat * 4503599627370496 + M) := by
  unfold Format.nearest
  have hne : M * 2 ^ t ≠ 0 := Nat.mul_ne_zero (by omega) (Nat.pos_iff_ne_zero.1 (Nat.two_pow_pos _))
  rw [if_neg hne]
  simp only
  have hf : (double.fractionBits : Int) = 52 := rfl
  rw [bn, lp, ir, hf]
  have hlog : (M * 2 ^ t).log2 = M.log2 + t := by
    rw [Nat.log2_eq_iff hne]
    have h1 : 2 ^ M.log2 ≤ M := Nat.log2_self_le (by omega)
    have h2 : M < 2 ^ (M.log2 + 1) := Nat.lt_log2_self
    refine ⟨?_, ?_⟩
    · rw [Nat.pow_add]; exact Nat.mul_le_mul_right _ h1
    · rw [show M.log2 + t + 1 = M.log2 + 1 + t by omega, Nat.pow_add]; exact Nat.mul_lt_mul_of_pos_right h2 (Nat.two_pow_pos _)
  have hlast : max (place + ((M * 2 ^ t).log2 : Int) - 52) (-1074) = e := by
    rw [hlog]
    have hM52 : M.log2 ≤ 52 := by
      have : M.log2 < 53 := (Nat.log2_lt (by omega)).2 (by omega)
      omega
    rcases hn with h | h
    · have : 52 ≤ M.log2 := (Nat.le_log2 (by omega)).2 (by omega)
      omega
    · omega
  rw [hlast]
  have e1 : (place - e).toNat = 0 := by omega
  have e2 : (e - place).toNat = t := by omega
  rw [e1, e2, Nat.shiftLeft_zero, cut_exact]
  congr 1
  have hle : (e + 1074).toNat ≤ 2045 := by omega
  have e3 : e - -1074 = e + 1074 := by omega
  rw [e3]
  refine Nat.min_eq_left ?_
  generalize (e + 1074).toNat = q at hle ⊢
  clear hlast hlog hne hf e1 e2 e3 hn he he1 he2
  omega

def two : Nat := 4611686018427387904
theorem read_two : double.read two = .number false 4503599627370496 (-51) := by decide +kernel
/-- The word of the double. -/
def dbl (t : Nat) : Nat := if t < 4503599627370496 then 2 * t else t + 4503599627370496

theorem read_normal {r : Nat} (h1 : 4503599627370496 ≤ r) (h : r < 9218868437227405312) : double.read r = .number false (4503599627370496 + r % 4503599627370496) (-1074 + (r / 4503599627370496 - 1 : Nat)) := by
  rw [read_eq]
  have e1 : r % 9223372036854775808 = r := Nat.mod_eq_of_lt (by omega)
  have e2 : (r / 9223372036854775808 % 2 == 1) = false := by rw [Nat.div_eq_of_lt (by omega)]; rfl
  rw [e1, e2, if_neg (by omega), if_pos h]
theorem read_small {r : Nat} (h : r < 4503599627370496) : double.read r = .number false r (-1074) := by
  rw [read_eq]
  have e1 : r % 9223372036854775808 = r := Nat.mod_eq_of_lt (by omega)
  have e2 : (r / 9223372036854775808 % 2 == 1) = false := by rw [Nat.div_eq_of_lt (by omega)]; rfl
  rw [e1, e2, if_pos h]

theorem mul_two {t : Nat} (h0 : 0 < t) (h : t < 9214364837600034816) : double.mul t two = some (dbl t) ∧ double.mul two t = some (dbl t) := by
  have hw : ∀ r, double.word (false ^^ false) r = r := fun r => rfl
  by_cases c : t < 4503599627370496
  · have hd : dbl t = 2 * t := by unfold dbl; rw [if_pos c]
    have key : double.nearest (false ^^ false) (t * 4503599627370496) (-1074 + -51) = 2 * t := by
      by_cases c2 : t < 2251799813685248
      · have := nearest_exact (false ^^ false) (2 * t) 51 (-1074 + -51) (-1074) (by omega) (by omega) (by decide) (by decide) (by decide) (.inr rfl)
        rw [show 2 * t * 2 ^ 51 = t * 4503599627370496 by omega] at this
        rw [this, hw]; simp
      · have := nearest_exact (false ^^ false) (2 * t) 51 (-1074 + -51) (-1074) (by omega) (by omega) (by decide) (by decide) (by decide) (.inr rfl)
        rw [show 2 * t * 2 ^ 51 = t * 4503599627370496 by omega] at this
        rw [this, hw]; simp
    rw [hd]
    constructor
    · unfold Format.mul; rw [read_small c, read_two]; exact congrArg some key
    · unfold Format.mul; rw [read_small c, read_two]
      refine congrArg some ?_
      show double.nearest (false ^^ false) (4503599627370496 * t) (-51 + -1074) = 2 * t
      rw [Nat.mul_comm, Int.add_comm]; exact key
  · have hd : dbl t = t + 4503599627370496 := by unfold dbl; rw [if_neg c]
    have hdm := Nat.div_add_mod t 4503599627370496
    have hmm := Nat.mod_lt t (show 0 < 4503599627370496 by decide)
    have key : double.nearest (false ^^ false) ((4503599627370496 + t % 4503599627370496) * 4503599627370496) (-1074 + (t / 4503599627370496 - 1 : Nat) + -51) = t + 4503599627370496 := by
      have := nearest_exact (false ^^ false) (4503599627370496 + t % 4503599627370496) 52 (-1074 + (t / 4503599627370496 - 1 : Nat) + -51) (-1074 + (t / 4503599627370496 : Nat)) (by omega) (by omega) (by omega) (by omega) (by omega) (.inl (by omega))
      rw [show (2 : Nat) ^ 52 = 4503599627370496 by decide] at this
      rw [this, hw]
      have e : (-1074 + ((t / 4503599627370496 : Nat) : Int) + 1074).toNat = t / 4503599627370496 := by omega
      rw [e]; omega
    rw [hd]
    constructor
    · unfold Format.mul; rw [read_normal (by omega) (by omega), read_two]; exact congrArg some key
    · unfold Format.mul; rw [read_two, read_normal (r := t) (by omega) (by omega)]
      refine congrArg some ?_
      show double.nearest (false ^^ false) (4503599627370496 * (4503599627370496 + t % 4503599627370496)) (-51 + (-1074 + (t / 4503599627370496 - 1 : Nat))) = t + 4503599627370496
      rw [Nat.mul_comm, Int.add_comm]; exact key

theorem div_two {t : Nat} (h0 : 9007199254740992 ≤ t) (h : t < 9218868437227405312) : double.div t two = some (t - 4503599627370496) := by
  have hdm := Nat.div_add_mod t 4503599627370496
  have hmm := Nat.mod_lt t (show 0 < 4503599627370496 by decide)
  unfold Format.div
  rw [read_normal (by omega) h, read_two]
  generalize hM : 4503599627370496 + t % 4503599627370496 = M
  have hl : M.log2 = 52 := by rw [Nat.log2_eq_iff (by omega)]; omega
  have hl2 : Nat.log2 4503599627370496 = 52 := by decide +kernel
  have hf : double.fractionBits + 2 = 54 := rfl
  simp only [Datum.quotient]
  rw [hf, hl, hl2, if_neg (by decide)]
  have hs : M <<< (54 + 52 - 52) = M * 4 * 4503599627370496 := by rw [Nat.shiftLeft_eq]; omega
  rw [hs, Nat.mul_div_cancel _ (by decide), Nat.mul_mod_left]
  refine congrArg some ?_
  show double.nearest (false ^^ false) (2 * (M * 4) + (0 != 0).toNat) _ = _
  have e0 : 2 * (M * 4) + ((0 : Nat) != 0).toNat = M * 2 ^ 3 := by simp; omega
  rw [e0]
  have := nearest_exact (false ^^ false) M 3 (-1074 + ((t / 4503599627370496 - 1 : Nat) : Int) - -51 - ((54 + 52 - 52 : Nat) : Int) - 1) (-1074 + ((t / 4503599627370496 - 2 : Nat) : Int)) (by omega) (by omega) (by omega) (by omega) (by omega) (.inl (by omega))
  rw [this]
  show (-1074 + ((t / 4503599627370496 - 2 : Nat) : Int) + 1074).toNat * 4503599627370496 + M = _
  have e : (-1074 + ((t / 4503599627370496 - 2 : Nat) : Int) + 1074).toNat = t / 4503599627370496 - 2 := by omega
  rw [e]; omega
end Go.Proofs.YtmiamfnnccjmeacDoor.FB
