/-
  Rounding keeps the order: what is at most a word is rounded to at most that word. No Go text is named here.
-/
import Derived.Test.YtmiamfnnccjmeacDoorFlt3
namespace Go.Proofs.YtmiamfnnccjmeacDoor.FB
open Ieee

theorem cut_le2 (neg : Bool) (n drop m : Nat) (h : n ≤ m * 2 ^ drop) : Toward.even.cut neg n drop ≤ m := by
  unfold Toward.cut
  have hb : ∀ b : Bool, b.toNat ≤ 1 := by intro b; cases b <;> decide
  simp only
  by_cases hd : drop ≤ n.log2 + 2
  · rw [Nat.min_eq_left hd, Nat.one_shiftLeft]
    have hp := Nat.two_pow_pos drop
    have hdm := Nat.div_add_mod n (2 ^ drop)
    rcases Nat.lt_or_ge (n / 2 ^ drop) m with hlt | hge
    · have := hb (decide (2 ^ drop < 2 * (n % 2 ^ drop)) || (2 ^ drop == 2 * (n % 2 ^ drop) && n / 2 ^ drop % 2 == 1))
      omega
    · have hmul : m * 2 ^ drop ≤ 2 ^ drop * (n / 2 ^ drop) := by rw [Nat.mul_comm]; exact Nat.mul_le_mul_left _ hge
      have h0 : n % 2 ^ drop = 0 := by omega
      have hq : n / 2 ^ drop = m := by
        refine Nat.le_antisymm ?_ hge
        exact Nat.div_le_of_le_mul (by rw [Nat.mul_comm]; exact h)
      rw [h0, hq]
      have e1 : decide (2 ^ drop < 2 * 0) = false := by simp
      have e2 : ((2 ^ drop == 2 * 0) : Bool) = false := by simp
      rw [e1, e2]
      simp
  · rw [Nat.min_eq_right (by omega), Nat.one_shiftLeft]
    by_cases h0 : n = 0
    · subst h0; simp
    have hn : n < 2 ^ (n.log2 + 1) := Nat.lt_log2_self
    have e : 2 ^ (n.log2 + 2) = 2 * 2 ^ (n.log2 + 1) := by rw [Nat.pow_succ 2 (n.log2 + 1)]; omega
    have hn2 : n < 2 ^ (n.log2 + 2) := by omega
    rw [Nat.div_eq_of_lt hn2, Nat.mod_eq_of_lt hn2]
    have e1 : decide (2 ^ (n.log2 + 2) < 2 * n) = false := by rw [decide_eq_false_iff_not]; omega
    have e2 : ((2 ^ (n.log2 + 2) == 2 * n) : Bool) = false := by rw [beq_eq_false_iff_ne]; omega
    rw [e1, e2]
    simp

/-- A word by its rung and what stands on it. -/
theorem word_parts (B : Nat) : ∃ q m, B = q * 4503599627370496 + m ∧ vl B = m * 2 ^ q ∧ m < 9007199254740992 ∧ (q = 0 ∨ 4503599627370496 ≤ m) := by
  unfold vl
  by_cases c : B < 4503599627370496
  · rw [if_pos c]; exact ⟨0, B, by omega, by simp, by omega, .inl rfl⟩
  · rw [if_neg c]
    have hm := Nat.mod_lt B (show 0 < 4503599627370496 by decide)
    have hd := Nat.div_add_mod B 4503599627370496
    exact ⟨B / 4503599627370496 - 1, 4503599627370496 + B % 4503599627370496, by omega, rfl, by omega, .inr (by omega)⟩

/-- At most that word in size. -/
def Wd (B x : Nat) : Prop := x < 18446744073709551616 ∧ x % 9223372036854775808 ≤ B
theorem Wd.mono {B C x : Nat} (h : Wd B x) (hc : B ≤ C) : Wd C x := ⟨h.1, Nat.le_trans h.2 hc⟩

theorem nearest_word (neg : Bool) (mag : Nat) (place : Int) (B : Nat) (hB : B < 9218868437227405312) (h : mag * 2 ^ (place + 1074).toNat ≤ vl B * 2 ^ (-1074 - place).toNat) : Wd B (double.nearest neg mag place) := by
  unfold Format.nearest
  have hword : ∀ r, r ≤ B → Wd B (double.word neg r) := by
    intro r hr
    unfold Format.word
    rw [sw]
    unfold Wd
    split <;> constructor <;> omega
  by_cases h0 : mag = 0
  · rw [if_pos h0]; exact hword 0 (Nat.zero_le _)
  rw [if_neg h0]
  simp only
  refine hword _ ?_
  refine Nat.le_trans (Nat.min_le_left _ _) ?_
  have hf : (double.fractionBits : Int) = 52 := by rfl
  rw [bn, lp, hf]
  obtain ⟨qB, mB, eB, vB, mB53, hmB⟩ := word_parts B
  have h1 : mag < 2 ^ (mag.log2 + 1) := Nat.lt_log2_self
  have h2 : 2 ^ mag.log2 ≤ mag := Nat.log2_self_le h0
  by_cases hc : place + (mag.log2 : Int) - 52 ≤ -1074
  · rw [Int.max_eq_right hc]
    have e0 : ((-1074 : Int) - -1074).toNat = 0 := by decide
    rw [e0]
    have ea : (place - -1074).toNat = (place + 1074).toNat := by omega
    rw [ea]
    have hcut : Toward.even.cut neg (mag <<< (place + 1074).toNat) (-1074 - place).toNat ≤ vl B := cut_le2 _ _ _ _ (by rw [Nat.shiftLeft_eq]; exact h)
    rcases hmB with rfl | hmB
    · rw [vB] at hcut
      simp at hcut eB
      omega
    · by_cases hq : qB = 0
      · subst hq
        rw [vB] at hcut
        simp at hcut eB
        omega
      · have hcut2 : Toward.even.cut neg (mag <<< (place + 1074).toNat) (-1074 - place).toNat ≤ 2 ^ 53 := by
          refine cut_le2 _ _ _ _ ?_
          rw [Nat.shiftLeft_eq]
          by_cases hp : -1074 ≤ place
          · have e1 : (-1074 - place).toNat = 0 := by omega
            rw [e1]
            have : mag * 2 ^ (place + 1074).toNat < 2 ^ (mag.log2 + 1) * 2 ^ (place + 1074).toNat := Nat.mul_lt_mul_of_pos_right h1 (Nat.two_pow_pos _)
            rw [← Nat.pow_add] at this
            have h2 : 2 ^ (mag.log2 + 1 + (place + 1074).toNat) ≤ 2 ^ 53 := Nat.pow_le_pow_right (by decide) (by omega)
            omega
          · have e1 : (place + 1074).toNat = 0 := by omega
            rw [e1, Nat.pow_zero, Nat.mul_one, ← Nat.pow_add]
            exact Nat.le_trans (Nat.le_of_lt h1) (Nat.pow_le_pow_right (by decide) (by omega))
        have h53 : (2 : Nat) ^ 53 = 9007199254740992 := by decide
        rw [h53] at hcut2
        have : 4503599627370496 ≤ qB * 4503599627370496 := Nat.le_mul_of_pos_left _ (by omega)
        omega
  · rw [Int.max_eq_left (by omega)]
    generalize hL : mag.log2 = L at *
    generalize ha : (place + 1074).toNat = a at *
    generalize hb : (-1074 - place).toNat = b at *
    obtain ⟨q, hq⟩ : ∃ q : Nat, place + (L : Int) - 52 - -1074 = q := ⟨(place + (L : Int) - 52 - -1074).toNat, by omega⟩
    rw [hq]
    have hqB : q ≤ qB := by
      have s1 : 2 ^ (L + a) ≤ mag * 2 ^ a := by rw [Nat.pow_add]; exact Nat.mul_le_mul_right _ h2
      have s2 : vl B * 2 ^ b < 2 ^ (53 + qB + b) := by
        rw [vB, Nat.pow_add, Nat.pow_add]
        exact Nat.mul_lt_mul_of_pos_right (Nat.mul_lt_mul_of_pos_right mB53 (Nat.two_pow_pos _)) (Nat.two_pow_pos _)
      have s3 : 2 ^ (L + a) < 2 ^ (53 + qB + b) := by omega
      have s4 : L + a < 53 + qB + b := (Nat.pow_lt_pow_iff_right (by decide)).1 s3
      omega
    have e1 : (place - (place + (L : Int) - 52)).toNat = 52 - L := by omega
    have e2 : (place + (L : Int) - 52 - place).toNat = L - 52 := by omega
    rw [e1, e2, Int.toNat_natCast]
    by_cases hqq : q = qB
    · subst hqq
      have hcut : Toward.even.cut neg (mag <<< (52 - L)) (L - 52) ≤ mB := by
        refine cut_le2 _ _ _ _ ?_
        rw [Nat.shiftLeft_eq]
        rw [vB] at h
        by_cases hp : L ≤ 52
        · rw [show L - 52 = 0 by omega, Nat.pow_zero, Nat.mul_one]
          have ea : a = (52 - L) + (q + b) := by omega
          rw [ea, Nat.pow_add, ← Nat.mul_assoc, Nat.mul_assoc mB, ← Nat.pow_add] at h
          exact Nat.le_of_mul_le_mul_right h (Nat.two_pow_pos _)
        · rw [show 52 - L = 0 by omega, Nat.pow_zero, Nat.mul_one]
          rw [Nat.mul_assoc, ← Nat.pow_add, show q + b = (L - 52) + a by omega, Nat.pow_add, ← Nat.mul_assoc] at h
          exact Nat.le_of_mul_le_mul_right h (Nat.two_pow_pos _)
      omega
    · have hcut : Toward.even.cut neg (mag <<< (52 - L)) (L - 52) ≤ 2 ^ 53 := by
        refine cut_le2 _ _ _ _ ?_
        rw [Nat.shiftLeft_eq]
        by_cases hp : L ≤ 52
        · rw [show L - 52 = 0 by omega, Nat.pow_zero, Nat.mul_one]
          have : mag * 2 ^ (52 - L) < 2 ^ (L + 1) * 2 ^ (52 - L) := Nat.mul_lt_mul_of_pos_right h1 (Nat.two_pow_pos _)
          rw [← Nat.pow_add, show L + 1 + (52 - L) = 53 by omega] at this
          omega
        · rw [show 52 - L = 0 by omega, Nat.pow_zero, Nat.mul_one, ← Nat.pow_add, show 53 + (L - 52) = L + 1 by omega]
          exact Nat.le_of_lt h1
      have h53 : (2 : Nat) ^ 53 = 9007199254740992 := by decide
      rw [h53] at hcut
      have hm : 4503599627370496 ≤ mB := by rcases hmB with h | h <;> omega
      have : (q + 1) * 4503599627370496 ≤ qB * 4503599627370496 := Nat.mul_le_mul_right _ (by omega)
      rw [Nat.add_mul] at this
      generalize Toward.even.cut neg _ _ = c at hcut ⊢
      omega
end Go.Proofs.YtmiamfnnccjmeacDoor.FB
