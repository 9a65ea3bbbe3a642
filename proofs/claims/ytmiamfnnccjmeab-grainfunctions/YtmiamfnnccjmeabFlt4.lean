/-
  A positive number as a part from a half on, below 1, and a power of 2; and what a logarithm does with it. No Go text is named here.
-/
import Derived.Test.YtmiamfnnccjmeabFlt3
namespace Go.Proofs.Ytmiamfnnccjmeab.FB
open Ieee

/-- The digits, 53 of them, and the power, counted as the words' own field. -/
def nM (r : Nat) : Nat := if r < 4503599627370496 then r * 2 ^ (52 - r.log2) else 4503599627370496 + r % 4503599627370496
def nE (r : Nat) : Int := if r < 4503599627370496 then (r.log2 : Int) - 51 else (r / 4503599627370496 : Nat)

theorem log_bd {r : Nat} (h0 : 0 < r) (h : r < 4503599627370496) : r.log2 ≤ 51 ∧ 2 ^ r.log2 ≤ r ∧ r < 2 ^ (r.log2 + 1) := by
  refine ⟨?_, Nat.log2_self_le (by omega), Nat.lt_log2_self⟩
  have : r.log2 < 52 := (Nat.log2_lt (by omega)).2 (by omega)
  omega
theorem nM_bd {r : Nat} (h0 : 0 < r) : 4503599627370496 ≤ nM r ∧ nM r < 9007199254740992 := by
  unfold nM
  by_cases c : r < 4503599627370496
  · rw [if_pos c]
    obtain ⟨h1, h2, h3⟩ := log_bd h0 c
    have e1 : 2 ^ r.log2 * 2 ^ (52 - r.log2) = 4503599627370496 := by
      rw [← Nat.pow_add, show r.log2 + (52 - r.log2) = 52 by omega]
    have e2 : 2 ^ (r.log2 + 1) * 2 ^ (52 - r.log2) = 9007199254740992 := by
      rw [← Nat.pow_add, show r.log2 + 1 + (52 - r.log2) = 53 by omega]
    have a1 := Nat.mul_le_mul_right (2 ^ (52 - r.log2)) h2
    have a2 := Nat.mul_lt_mul_of_pos_right h3 (Nat.two_pow_pos (52 - r.log2))
    rw [e1] at a1
    rw [e2] at a2
    exact ⟨a1, a2⟩
  · rw [if_neg c]; omega

theorem nM_dbl {t : Nat} (h0 : 0 < t) : nM (dbl t) = nM t ∧ nE (dbl t) = nE t + 1 := by
  unfold dbl
  by_cases c : t < 4503599627370496
  · rw [if_pos c]
    obtain ⟨h1, h2, h3⟩ := log_bd h0 c
    have hl : (2 * t).log2 = t.log2 + 1 := by
      rw [Nat.log2_eq_iff (by omega), Nat.pow_succ, Nat.pow_succ]
      rw [Nat.pow_succ] at h3
      omega
    by_cases c2 : 2 * t < 4503599627370496
    · unfold nM nE
      rw [if_pos c, if_pos c, if_pos c2, if_pos c2, hl]
      have hl50 : t.log2 ≤ 50 := by
        have := (Nat.log2_lt (n := 2 * t) (k := 52) (by omega)).2 (by omega)
        omega
      refine ⟨?_, by omega⟩
      obtain ⟨u, hu⟩ : ∃ u, 52 - t.log2 = u + 1 := ⟨51 - t.log2, by omega⟩
      have hu2 : 52 - (t.log2 + 1) = u := by omega
      rw [hu, hu2, Nat.pow_succ, Nat.mul_comm 2 t, Nat.mul_assoc, Nat.mul_comm 2]
    · have hl51 : t.log2 = 51 := by
        have : 52 ≤ (2 * t).log2 := (Nat.le_log2 (by omega)).2 (by omega)
        omega
      unfold nM nE
      rw [if_pos c, if_pos c, if_neg c2, if_neg c2, hl51]
      have e1 : 2 * t / 4503599627370496 = 1 := by omega
      rw [e1]
      refine ⟨by omega, by omega⟩
  · rw [if_neg c]
    unfold nM nE
    rw [if_neg c, if_neg c, if_neg (by omega), if_neg (by omega)]
    refine ⟨by omega, by omega⟩
theorem nM_half {t : Nat} (h0 : 9007199254740992 ≤ t) : nM (t - 4503599627370496) = nM t ∧ nE (t - 4503599627370496) = nE t - 1 := by
  unfold nM nE
  rw [if_neg (by omega), if_neg (by omega), if_neg (by omega), if_neg (by omega)]
  refine ⟨by omega, by omega⟩

def cH : Nat := 4604544271217802189
/-- The part from a half on, below 1. -/
def lnF (r : Nat) : Nat := 4602678819172646912 + (nM r - 4503599627370496)
def lnM (r : Nat) : Nat := if lnF r < cH then lnF r + 4503599627370496 else lnF r
def lnK (r : Nat) : Int := if lnF r < cH then nE r - 1023 else nE r - 1022

theorem ln_end {t r : Nat} (k : Int) (h1 : 4604544271217802189 ≤ t) (h2 : t < 4609047870845172685) (hM : nM t = nM r) (hE : nE t + k = nE r) : t = lnM r ∧ k = lnK r := by
  have hMt : nM t = 4503599627370496 + t % 4503599627370496 := by unfold nM; rw [if_neg (by omega)]
  have hEt : nE t = (t / 4503599627370496 : Nat) := by unfold nE; rw [if_neg (by omega)]
  unfold lnM lnK lnF cH
  rw [← hM, hMt]
  rw [hEt] at hE
  have hq : t / 4503599627370496 = 1022 ∨ t / 4503599627370496 = 1023 := by omega
  rcases hq with hq | hq
  · rw [if_neg (by omega), if_neg (by omega)]
    omega
  · rw [if_pos (by omega), if_pos (by omega)]
    omega

theorem lnM_bd {r : Nat} (h0 : 0 < r) : 4604544271217802189 ≤ lnM r ∧ lnM r < 4609047870845172685 := by
  have := nM_bd h0
  unfold lnM lnF cH
  split <;> omega
theorem nE_bd {r : Nat} (h0 : 0 < r) (h : r < 9218868437227405312) : -51 ≤ nE r ∧ nE r ≤ 2046 := by
  unfold nE
  split
  · rename_i c; have := log_bd h0 c; omega
  · omega
theorem lnK_bd {r : Nat} (h0 : 0 < r) (h : r < 9218868437227405312) : -1074 ≤ lnK r ∧ lnK r ≤ 1024 := by
  have := nE_bd h0 h
  unfold lnK
  split <;> omega

def p52 : Nat := 4841369599423283200
theorem read_p52 : double.read p52 = .number false 4503599627370496 0 := by decide +kernel
/-- A small number times 2 to the power of 52. -/
theorem mul_p52 {r : Nat} (h0 : 0 < r) (h : r < 4503599627370496) : double.mul r p52 = some (r.log2 * 4503599627370496 + nM r) := by
  obtain ⟨h1, h2, h3⟩ := log_bd h0 h
  have hb := nM_bd h0
  have hM : nM r = r * 2 ^ (52 - r.log2) := by unfold nM; rw [if_pos h]
  unfold Format.mul
  rw [read_small h, read_p52]
  refine congrArg some ?_
  show double.nearest (false ^^ false) (r * 4503599627370496) (-1074 + 0) = _
  have hmag : r * 4503599627370496 = nM r * 2 ^ r.log2 := by
    rw [hM, Nat.mul_assoc, ← Nat.pow_add, show 52 - r.log2 + r.log2 = 52 by omega]
  rw [hmag, nearest_exact (false ^^ false) (nM r) r.log2 (-1074 + 0) (r.log2 - 1074) hb.2 (by omega) (by omega) (by omega) (by omega) (.inl hb.1)]
  show ((r.log2 : Int) - 1074 + 1074).toNat * 4503599627370496 + nM r = _
  rw [show ((r.log2 : Int) - 1074 + 1074).toNat = r.log2 by omega]

/-! Quotients. -/
theorem cut_ge (neg : Bool) (n drop m : Nat) (h : m * 2 ^ drop ≤ n) : m ≤ Toward.even.cut neg n drop := by
  unfold Toward.cut
  simp only
  by_cases h0 : m = 0
  · subst h0; exact Nat.zero_le _
  have hn : n ≠ 0 := by
    have := Nat.mul_le_mul (show 1 ≤ m by omega) (Nat.one_le_two_pow (n := drop))
    omega
  have hd : drop ≤ n.log2 + 2 := by
    have : drop ≤ n.log2 := (Nat.le_log2 hn).2 (Nat.le_trans (Nat.le_mul_of_pos_left _ (by omega)) h)
    omega
  rw [Nat.min_eq_left hd, Nat.one_shiftLeft]
  have : m ≤ n / 2 ^ drop := (Nat.le_div_iff_mul_le (Nat.two_pow_pos _)).2 h
  omega

theorem nearest_ge (mag : Nat) (place : Int) (k : Nat) (h0 : mag ≠ 0) (hk : 1 ≤ k) (hk2 : k ≤ 2046) (h : (k : Int) ≤ place + mag.log2 + 1023) : k * 4503599627370496 ≤ double.nearest false mag place := by
  unfold Format.nearest
  rw [if_neg h0]
  have hf : (double.fractionBits : Int) = 52 := rfl
  have hw : ∀ r, double.word false r = r := fun r => rfl
  simp only [bn, lp, ir, hf, hw]
  rw [Int.max_eq_left (by omega)]
  have hcut : 4503599627370496 ≤ Toward.even.cut false (mag <<< (place - (place + (mag.log2 : Int) - 52)).toNat) (place + (mag.log2 : Int) - 52 - place).toNat := by
    refine cut_ge _ _ _ _ ?_
    rw [Nat.shiftLeft_eq]
    have h1 : 2 ^ mag.log2 ≤ mag := Nat.log2_self_le h0
    by_cases hp : mag.log2 ≤ 52
    · have e1 : (place + (mag.log2 : Int) - 52 - place).toNat = 0 := by omega
      have e2 : (place - (place + (mag.log2 : Int) - 52)).toNat = 52 - mag.log2 := by omega
      rw [e1, e2]
      have a1 := Nat.mul_le_mul_right (2 ^ (52 - mag.log2)) h1
      rw [← Nat.pow_add, show mag.log2 + (52 - mag.log2) = 52 by omega, show (2 : Nat) ^ 52 = 4503599627370496 by decide] at a1
      rw [Nat.pow_zero, Nat.mul_one]
      exact a1
    · have e2 : (place - (place + (mag.log2 : Int) - 52)).toNat = 0 := by omega
      have e1 : (place + (mag.log2 : Int) - 52 - place).toNat = mag.log2 - 52 := by omega
      rw [e2, e1, Nat.pow_zero, Nat.mul_one]
      have : 4503599627370496 * 2 ^ (mag.log2 - 52) = 2 ^ mag.log2 := by
        rw [show (4503599627370496 : Nat) = 2 ^ 52 by decide, ← Nat.pow_add, show 52 + (mag.log2 - 52) = mag.log2 by omega]
      rw [this]; exact h1
  generalize Toward.even.cut false _ _ = c at hcut ⊢
  have hq : k ≤ ((place + (mag.log2 : Int) - 52) - -1074).toNat + 1 := by omega
  generalize ((place + (mag.log2 : Int) - 52) - -1074).toNat = q at hq ⊢
  clear h
  omega

/-- A quotient by a number from 1 on. -/
theorem div_le {k x y : Nat} (hx : Le k x) (hk1 : 1 ≤ k) (hk : k ≤ 2040) (hy1 : 4607182418800017408 ≤ y) (hy2 : y < 9218868437227405312) : ∃ r, double.div x y = some r ∧ Le (k + 4) r := by
  obtain ⟨s, m, i, hr, hm, hi, _⟩ := read_le hx hk1 (by omega)
  have hry := read_normal (r := y) (by omega) hy2
  have hdm := Nat.div_add_mod y 4503599627370496
  have hmm := Nat.mod_lt y (show 0 < 4503599627370496 by decide)
  generalize hn : 4503599627370496 + y % 4503599627370496 = n at hry
  generalize hj : (-1074 + ((y / 4503599627370496 - 1 : Nat) : Int)) = j at hry
  have hj0 : -52 ≤ j := by omega
  have hln : n.log2 = 52 := by rw [Nat.log2_eq_iff (by omega)]; omega
  unfold Format.div
  rw [hr, hry]
  have hf : double.fractionBits + 2 = 54 := rfl
  rw [hf]
  simp only [Datum.quotient]
  rw [if_neg (by omega)]
  refine ⟨_, rfl, ?_⟩
  rw [hln]
  show Le (k + 4) (double.nearest _ _ _)
  have hlm : m.log2 ≤ 52 := by
    rcases Nat.eq_zero_or_pos m with h | h
    · subst h; decide
    · have : m.log2 < 53 := (Nat.log2_lt (by omega)).2 hm
      omega
  generalize hmore : 54 + 52 - m.log2 = more
  have hmore2 : m.log2 + more = 106 := by omega
  have hq : m <<< more / n < 2 ^ 55 := by
    rw [Nat.shiftLeft_eq]
    refine Nat.div_lt_of_lt_mul ?_
    have h1 : m < 2 ^ (m.log2 + 1) := Nat.lt_log2_self
    have h2 : m * 2 ^ more < 2 ^ (m.log2 + 1) * 2 ^ more := Nat.mul_lt_mul_of_pos_right h1 (Nat.two_pow_pos _)
    rw [← Nat.pow_add, show m.log2 + 1 + more = 107 by omega] at h2
    have h3 : 2 ^ 107 = 4503599627370496 * 2 ^ 55 := by decide
    have h4 : 4503599627370496 * 2 ^ 55 ≤ n * 2 ^ 55 := Nat.mul_le_mul_right _ (by omega)
    omega
  have hmag : 2 * (m <<< more / n) + (m <<< more % n != 0).toNat < 2 ^ 56 := by
    have hb : (m <<< more % n != 0).toNat ≤ 1 := by cases (m <<< more % n != 0) <;> decide
    generalize m <<< more / n = q at hq ⊢
    omega
  rcases nearest_le (s ^^ false) (2 * (m <<< more / n) + (m <<< more % n != 0).toNat) (i - j - more - 1) 56 (k + 4) hmag (by omega) (by clear hmag hq; omega) with h | h
  · exact h
  · omega
end Go.Proofs.Ytmiamfnnccjmeab.FB
