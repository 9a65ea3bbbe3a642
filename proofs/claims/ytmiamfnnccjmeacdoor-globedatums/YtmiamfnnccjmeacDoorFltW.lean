/-
  Products, sums and differences of words, as fractions: how far they are from the exact ones. No Go text is named here.
-/
import Derived.Test.YtmiamfnnccjmeacDoorFltV
namespace Go.Proofs.YtmiamfnnccjmeacDoor.FB
open Ieee

/-- At most a 2^53rd of B, and a half of the least number, apart. -/
def Off (B r p : Rat) : Prop := 9007199254740992 * (r - p) ≤ B + 4503599627370496 * ulp ∧ 9007199254740992 * (p - r) ≤ B + 4503599627370496 * ulp
theorem off_of {B R T : Rat} (neg : Bool) (h1 : 9007199254740992 * (R - T) ≤ T + 4503599627370496 * ulp) (h2 : 9007199254740992 * (T - R) ≤ T + 4503599627370496 * ulp) (hB : T ≤ B) : Off B ((if neg then -1 else 1) * R) ((if neg then -1 else 1) * T) := by
  unfold Off
  cases neg with
  | false => simp only [Bool.false_eq_true, if_false]; grind
  | true => simp only [if_true]; grind
theorem cast4 (a b d c v : Nat) (h : a * b * d = c * v) : (a : Rat) * (b : Rat) * (d : Rat) = (c : Rat) * (v : Rat) := by
  rw [← Rat.natCast_mul, ← Rat.natCast_mul, ← Rat.natCast_mul, h]
theorem mul_val {x y : Nat} (hx : x < 18446744073709551616) (hy : y < 18446744073709551616) (fx : x % 9223372036854775808 < 9218868437227405312) (fy : y % 9223372036854775808 < 9218868437227405312) (hf : FM x y % 9223372036854775808 < 9218868437227405312) (B : Rat) (h1 : -B ≤ val x * val y) (h2 : val x * val y ≤ B) : Off B (val (FM x y)) (val x * val y) := by
  obtain ⟨s, m, e, rx, he, vx⟩ := num_val hx fx
  obtain ⟨t, n, f, ry, hf2, vy⟩ := num_val hy fy
  have eFM : FM x y = double.nearest (s ^^ t) (m * n) (e + f) := by unfold FM Format.mul; rw [rx, ry]; rfl
  rw [eFM] at hf ⊢
  have hn : m * 2 ^ (e + 1074).toNat * (n * 2 ^ (f + 1074).toNat) * 2 ^ (-1074 - (e + f)).toNat = m * n * 2 ^ (e + f + 1074).toNat * vl 4607182418800017408 := by
    obtain ⟨K, hK, eK⟩ := vl_one
    rw [eK]
    clear eK
    rw [Nat.mul_mul_mul_comm, ← Nat.pow_add, Nat.mul_assoc, Nat.mul_assoc (m * n), ← Nat.pow_add, ← Nat.pow_add, show (e + 1074).toNat + (f + 1074).toNat + (-1074 - (e + f)).toNat = (e + f + 1074).toNat + K by omega]
  have hr := cast4 _ _ _ _ _ hn
  have u1 := ulp_one
  obtain ⟨R, hR, b1, b2, b0⟩ := near_rat (s ^^ t) (m * n) (e + f) hf (((m * 2 ^ (e + 1074).toNat : Nat) : Rat) * ulp * (((n * 2 ^ (f + 1074).toNat : Nat) : Rat) * ulp)) (by
    generalize ((m * 2 ^ (e + 1074).toNat : Nat) : Rat) = a at *
    generalize ((n * 2 ^ (f + 1074).toNat : Nat) : Rat) = b at *
    generalize ((2 ^ (-1074 - (e + f)).toNat : Nat) : Rat) = d at *
    generalize ((m * n * 2 ^ (e + f + 1074).toNat : Nat) : Rat) = c at *
    generalize ((vl 4607182418800017408 : Nat) : Rat) = v at *
    have k1 : a * ulp * (b * ulp) * d = (a * b * d) * ulp * ulp := by grind
    have k2 : c * v * ulp * ulp = c * (v * ulp) * ulp := by grind
    rw [k1, hr, k2, u1]; grind)
  have hp : val x * val y = (if (s ^^ t) = true then -1 else 1) * (((m * 2 ^ (e + 1074).toNat : Nat) : Rat) * ulp * (((n * 2 ^ (f + 1074).toNat : Nat) : Rat) * ulp)) := by
    rw [vx, vy]
    cases s <;> cases t <;> simp only [Bool.xor_self, Bool.xor_false, Bool.xor_true, Bool.false_eq_true, if_true, if_false, Bool.not_false] <;> grind
  rw [hR, hp]
  refine off_of (s ^^ t) b1 b2 ?_
  rw [hp] at h1 h2
  generalize ((m * 2 ^ (e + 1074).toNat : Nat) : Rat) * ulp * (((n * 2 ^ (f + 1074).toNat : Nat) : Rat) * ulp) = T at *
  generalize (s ^^ t) = sg at *
  cases sg <;> simp only [Bool.false_eq_true, if_true, if_false] at h1 h2 <;> grind
/-- A sum of two data. -/
theorem sum_val (s : Bool) (m : Nat) (e : Int) (t : Bool) (n : Nat) (f : Int) (he : -1074 ≤ e) (hf : -1074 ≤ f) (neg : Bool) (S : Int) (_hS : signed s m (e - min e f).toNat + signed t n (f - min e f).toNat = S) (hneg : S ≠ 0 → neg = decide (S < 0)) (hfin : double.nearest neg S.natAbs (min e f) % 9223372036854775808 < 9218868437227405312) (B : Rat) (p : Rat) (hp : p = ((S : Int) : Rat) * ((2 ^ (min e f + 1074).toNat : Nat) : Rat) * ulp) (h1 : -B ≤ p) (h2 : p ≤ B) : Off B (val (double.nearest neg S.natAbs (min e f))) p := by
  have hu := ulp_pos
  obtain ⟨R, hR, b1, b2, b0⟩ := near_rat neg S.natAbs (min e f) hfin (((S.natAbs * 2 ^ (min e f + 1074).toNat : Nat) : Rat) * ulp) (by rw [show (-1074 - min e f).toNat = 0 by omega, Nat.pow_zero]; grind)
  rw [hR]
  clear _hS
  by_cases c : S = 0
  · subst c
    have hp0 : p = 0 := by rw [hp]; simp
    have hT : ((((0 : Int).natAbs * 2 ^ (min e f + 1074).toNat : Nat)) : Rat) * ulp = 0 := by simp
    rw [hT] at b1 b2
    rw [hp0] at h1 h2 ⊢
    unfold Off
    cases neg <;> simp only [Bool.false_eq_true, if_true, if_false] <;> grind
  · have hn := hneg c
    have hT : p = (if neg = true then -1 else 1) * (((S.natAbs * 2 ^ (min e f + 1074).toNat : Nat) : Rat) * ulp) := by
      rw [hp, hn, Rat.natCast_mul]
      by_cases c2 : S < 0
      · rw [decide_eq_true c2]
        have : ((S : Int) : Rat) = -((S.natAbs : Nat) : Rat) := by
          rw [← Rat.intCast_natCast, ← Rat.intCast_neg]; congr 1; omega
        rw [this]; simp only [if_true]; grind
      · rw [decide_eq_false c2]
        have : ((S : Int) : Rat) = ((S.natAbs : Nat) : Rat) := by
          rw [← Rat.intCast_natCast]; congr 1; omega
        rw [this]; simp only [Bool.false_eq_true, if_false]; grind
    rw [hT] at h1 h2 ⊢
    refine off_of neg b1 b2 ?_
    generalize ((S.natAbs * 2 ^ (min e f + 1074).toNat : Nat) : Rat) * ulp = T at *
    cases neg <;> simp only [Bool.false_eq_true, if_true, if_false] at h1 h2 <;> grind
theorem add_val {x y : Nat} (hx : x < 18446744073709551616) (hy : y < 18446744073709551616) (fx : x % 9223372036854775808 < 9218868437227405312) (fy : y % 9223372036854775808 < 9218868437227405312) (hf : FA x y % 9223372036854775808 < 9218868437227405312) (B : Rat) (h1 : -B ≤ val x + val y) (h2 : val x + val y ≤ B) : Off B (val (FA x y)) (val x + val y) := by
  obtain ⟨s, m, e, rx, he, vx⟩ := read_fin hx fx
  obtain ⟨t, n, f, ry, hf2, vy⟩ := read_fin hy fy
  have a1 := vx (min e f) (by omega) (by omega)
  have a2 := vy (min e f) (by omega) (by omega)
  have hp : val x + val y = (((signed s m (e - min e f).toNat + signed t n (f - min e f).toNat : Int)) : Rat) * ((2 ^ (min e f + 1074).toNat : Nat) : Rat) * ulp := by
    unfold val
    rw [a1, a2, Rat.intCast_mul, Rat.intCast_mul, Rat.intCast_natCast, Rat.intCast_add]
    generalize ((2 ^ (min e f + 1074).toNat : Nat) : Rat) = P
    grind
  have eFA : FA x y = double.nearest (if signed s m (e - min e f).toNat + signed t n (f - min e f).toNat = 0 then s && t else decide (signed s m (e - min e f).toNat + signed t n (f - min e f).toNat < 0)) (signed s m (e - min e f).toNat + signed t n (f - min e f).toNat).natAbs (min e f) := by unfold FA Format.add; rw [rx, ry]; rfl
  rw [eFA] at hf ⊢
  exact sum_val s m e t n f he hf2 _ _ rfl (fun c => if_neg c) hf B _ hp h1 h2
theorem sub_val {x y : Nat} (hx : x < 18446744073709551616) (hy : y < 18446744073709551616) (fx : x % 9223372036854775808 < 9218868437227405312) (fy : y % 9223372036854775808 < 9218868437227405312) (hf : FS x y % 9223372036854775808 < 9218868437227405312) (B : Rat) (h1 : -B ≤ val x - val y) (h2 : val x - val y ≤ B) : Off B (val (FS x y)) (val x - val y) := by
  obtain ⟨s, m, e, rx, he, vx⟩ := read_fin hx fx
  obtain ⟨t, n, f, ry, hf2, vy⟩ := read_fin hy fy
  have a1 := vx (min e f) (by omega) (by omega)
  have a2 := vy (min e f) (by omega) (by omega)
  have hop : signed (!t) n (f - min e f).toNat = -signed t n (f - min e f).toNat := by cases t <;> simp [signed_false, signed_true]
  have hp : val x - val y = (((signed s m (e - min e f).toNat + signed (!t) n (f - min e f).toNat : Int)) : Rat) * ((2 ^ (min e f + 1074).toNat : Nat) : Rat) * ulp := by
    unfold val
    rw [a1, a2, hop, Rat.intCast_mul, Rat.intCast_mul, Rat.intCast_natCast, Rat.intCast_add, Rat.intCast_neg]
    generalize ((2 ^ (min e f + 1074).toNat : Nat) : Rat) = P
    grind
  have eFS : FS x y = double.nearest (if signed s m (e - min e f).toNat + signed (!t) n (f - min e f).toNat = 0 then s && (!t) else decide (signed s m (e - min e f).toNat + signed (!t) n (f - min e f).toNat < 0)) (signed s m (e - min e f).toNat + signed (!t) n (f - min e f).toNat).natAbs (min e f) := by unfold FS Format.sub; rw [rx, ry]; rfl
  rw [eFS] at hf ⊢
  exact sum_val s m e (!t) n f he hf2 _ _ rfl (fun c => if_neg c) hf B _ hp h1 h2
end Go.Proofs.YtmiamfnnccjmeacDoor.FB
