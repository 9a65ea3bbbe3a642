/-
  What words stand for, as fractions; products and sums of them, and how far rounding goes. No Go text is named here.
-/
import Derived.Test.YtmiamfnnccjmeacDoorFltQ
import Derived.Test.YtmiamfnnccjmeacDoorKey
namespace Go.Proofs.YtmiamfnnccjmeacDoor.FB
open Ieee

/-- The least positive number. -/
def ulp : Rat := ((vl 4607182418800017408 : Nat) : Rat)⁻¹
theorem vl1_pos : 0 < vl 4607182418800017408 := vl_pos (by decide)
theorem vl1_rat : (0 : Rat) < ((vl 4607182418800017408 : Nat) : Rat) := Rat.natCast_pos.2 vl1_pos
theorem ulp_pos : 0 < ulp := Rat.inv_pos.2 vl1_rat
theorem ulp_one : ((vl 4607182418800017408 : Nat) : Rat) * ulp = 1 := Rat.mul_inv_cancel _ (by have := vl1_rat; grind)
/-- What a word stands for. -/
def val (x : Nat) : Rat := ((sv (key x) : Int) : Rat) * ulp
theorem sv_word (neg : Bool) {r : Nat} (h : r ≤ 9218868437227405312) : sv (key (double.word neg r)) = (if neg then -((vl r : Nat) : Int) else ((vl r : Nat) : Int)) ∧ double.word neg r % 9223372036854775808 = r := by
  unfold Format.word
  rw [sw]
  cases neg with
  | false =>
    simp only [Bool.false_eq_true, if_false]
    refine ⟨?_, by omega⟩
    have hk : key r = r := by unfold key; rw [if_pos (by omega)]
    rw [hk]
    unfold sv
    rw [if_pos (by omega), Int.toNat_natCast]
  | true =>
    simp only [if_true]
    refine ⟨?_, by omega⟩
    have hk : key (9223372036854775808 + r) = -(r : Int) := by
      unfold key; rw [if_neg (by omega)]; congr 1; omega
    first
    | rw [hk]
    | (rw [Nat.add_comm, hk])
    unfold sv
    by_cases c : r = 0
    · subst c; simp [vl_zero]
    · rw [if_neg (by omega), Int.neg_neg, Int.toNat_natCast]
theorem near_word (neg : Bool) (mag : Nat) (place : Int) : ∃ r, r ≤ 9218868437227405312 ∧ double.nearest neg mag place = double.word neg r := by
  unfold Format.nearest
  by_cases h0 : mag = 0
  · rw [if_pos h0]; exact ⟨0, by decide, rfl⟩
  · rw [if_neg h0]; simp only
    rw [ir]
    exact ⟨_, Nat.min_le_right _ _, rfl⟩
theorem near_val (neg : Bool) (mag : Nat) (place : Int) : val (double.nearest neg mag place) = (if neg then -1 else 1) * (((vl (double.nearest neg mag place % 9223372036854775808) : Nat) : Rat) * ulp) := by
  obtain ⟨r, hr, e⟩ := near_word neg mag place
  obtain ⟨h1, h2⟩ := sv_word neg hr
  rw [e, h2]
  unfold val
  rw [h1]
  cases neg with
  | false => simp only [Bool.false_eq_true, if_false, Rat.intCast_natCast]; grind
  | true => simp only [if_true, Rat.intCast_neg, Rat.intCast_natCast]; grind
theorem num_val {x : Nat} (hx : x < 18446744073709551616) (h : x % 9223372036854775808 < 9218868437227405312) : ∃ s m e, double.read x = .number s m e ∧ -1074 ≤ e ∧ val x = (if s then -1 else 1) * (((m * 2 ^ (e + 1074).toNat : Nat) : Rat) * ulp) := by
  obtain ⟨s, m, e, hr, he, hv⟩ := read_fin hx h
  refine ⟨s, m, e, hr, he, ?_⟩
  have := hv e he (Int.le_refl _)
  unfold val
  rw [this, show (e - e).toNat = 0 by omega]
  cases s with
  | false =>
    rw [signed_false, Nat.pow_zero, Nat.mul_one, ← Int.natCast_mul, Rat.intCast_natCast]
    simp only [Bool.false_eq_true, if_false]; grind
  | true =>
    rw [signed_true, Nat.pow_zero, Nat.mul_one, Int.neg_mul, ← Int.natCast_mul, Rat.intCast_neg, Rat.intCast_natCast]
    simp only [if_true]; grind
/-- Rounding, of a magnitude T that is M over D in units of the least number. -/
theorem near_rat (neg : Bool) (mag : Nat) (place : Int) (hfin : double.nearest neg mag place % 9223372036854775808 < 9218868437227405312) (T : Rat) (hT : T * ((2 ^ (-1074 - place).toNat : Nat) : Rat) = ((mag * 2 ^ (place + 1074).toNat : Nat) : Rat) * ulp) :
    ∃ R : Rat, val (double.nearest neg mag place) = (if neg then -1 else 1) * R ∧ 9007199254740992 * (R - T) ≤ T + 4503599627370496 * ulp ∧ 9007199254740992 * (T - R) ≤ T + 4503599627370496 * ulp ∧ 0 ≤ T := by
  refine ⟨_, near_val neg mag place, ?_⟩
  have he := near_err neg mag place hfin
  generalize double.nearest neg mag place % 9223372036854775808 = r at he ⊢
  have hD : (0 : Rat) < ((2 ^ (-1074 - place).toNat : Nat) : Rat) := Rat.natCast_pos.2 (Nat.two_pow_pos _)
  have hu := ulp_pos
  generalize 2 ^ (-1074 - place).toNat = D at he hD hT
  generalize mag * 2 ^ (place + 1074).toNat = M at he hT
  generalize vl r = v at he ⊢
  have hM : (0 : Rat) ≤ (M : Rat) := Rat.natCast_nonneg
  have hT0 : 0 ≤ T := by
    apply Rat.le_of_mul_le_mul_right (c := (D : Rat)) _ hD
    rw [hT, Rat.zero_mul]
    exact Rat.mul_nonneg hM (by grind)
  have go : ∀ a b : Rat, a * D ≤ b * D → a ≤ b := fun a b h => Rat.le_of_mul_le_mul_right h hD
  have hz : 0 ≤ 4503599627370496 * ulp := by grind
  rcases he with ⟨e1, e2⟩ | ⟨e1, e2⟩
  · have f1 : (9007199254740992 : Rat) * ((v : Rat) * D) ≤ 9007199254740993 * (M : Rat) := by exact_mod_cast e1
    have f2 : (9007199254740991 : Rat) * (M : Rat) ≤ 9007199254740992 * ((v : Rat) * D) := by exact_mod_cast e2
    have g1 := Rat.mul_le_mul_of_nonneg_right f1 (Rat.le_of_lt hu)
    have g2 := Rat.mul_le_mul_of_nonneg_right f2 (Rat.le_of_lt hu)
    refine ⟨?_, ?_, hT0⟩
    · have : 9007199254740992 * ((v : Rat) * ulp - T) ≤ T := go _ _ (by grind)
      grind
    · have : 9007199254740992 * (T - (v : Rat) * ulp) ≤ T := go _ _ (by grind)
      grind
  · have f1 : (2 : Rat) * ((v : Rat) * D) ≤ 2 * (M : Rat) + D := by exact_mod_cast e1
    have f2 : (2 : Rat) * (M : Rat) ≤ 2 * ((v : Rat) * D) + D := by exact_mod_cast e2
    have g1 := Rat.mul_le_mul_of_nonneg_right f1 (Rat.le_of_lt hu)
    have g2 := Rat.mul_le_mul_of_nonneg_right f2 (Rat.le_of_lt hu)
    refine ⟨?_, ?_, hT0⟩
    · have : 2 * ((v : Rat) * ulp - T) ≤ ulp := go _ _ (by grind)
      grind
    · have : 2 * (T - (v : Rat) * ulp) ≤ ulp := go _ _ (by grind)
      grind
end Go.Proofs.YtmiamfnnccjmeacDoor.FB
