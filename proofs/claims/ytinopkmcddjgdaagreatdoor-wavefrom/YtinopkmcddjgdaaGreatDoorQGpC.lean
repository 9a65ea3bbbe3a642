/-
  The cosine's series is not nothing at any angle of an eighth of a turn.
-/
import Derived.Test.YtinopkmcddjgdaaGreatDoorQJ2
import Derived.Test.YtinopkmcddjgdaaGreatDoorQJ1
namespace Go.Proofs.YtinopkmcddjgdaaGreatDoor
open Go.RowKit FB

/-- The words of an eighth of a turn, of 0.875, of 1. -/
def w45 : Nat := 4766203046130614272
def w78 : Nat := 4606056518893174784
theorem ofInt_wd (n : Int) (h : n.natAbs ≤ 45000000000) : Wd w45 (floatOfInt .f64 n) := by
  unfold floatOfInt
  refine nearest_word _ _ _ _ (by decide) ?_
  have e : vl w45 = 45000000000 * vl 4607182418800017408 := by decide +kernel
  obtain ⟨K, hK, eK⟩ := vl_one
  rw [e, eK, show ((0 : Int) + 1074).toNat = K by omega, show ((-1074 : Int) - 0).toNat = 0 by decide, Nat.pow_zero, Nat.mul_one]
  exact Nat.mul_le_mul_right _ h
theorem x_wd (n : Int) (h0 : 0 ≤ n) (h1 : n < 360000000000) : Wd w78 (xOf n) := by
  have := q_bd n h0 h1
  exact FM_wd (ofInt_wd _ (by omega)) (Y := rad) ⟨by decide, by decide⟩ (by decide) (by decide) _ (by decide) (by decide +kernel)
theorem z_wd (n : Int) (h0 : 0 ≤ n) (h1 : n < 360000000000) : Wd w78 (zOf n) :=
  FM_wd (x_wd n h0 h1) (x_wd n h0 h1) (by decide) (by decide) _ (by decide) (by decide +kernel)
theorem hor_step {z c p P C : Nat} (hz : Wd w78 z) (hp : Wd P p) (hP : P < 9218868437227405312) (hc : Wd C c) (hC : C < 9218868437227405312) (h1 : vl w78 * vl P ≤ vl P * vl 4607182418800017408) (B : Nat) (hB : B < 9218868437227405312) (h2 : vl C + vl P ≤ vl B) : Wd B (FA c (FM z p)) :=
  FA_wd hc (FM_wd hz hp (by decide) hP P hP h1) hC hP B hB h2
theorem cOf_ne (n : Int) (h0 : 0 ≤ n) (h1 : n < 360000000000) : cOf n % 9223372036854775808 ≠ 0 := by
  have hz := z_wd n h0 h1
  unfold cOf
  generalize zOf n = z at hz
  show FA 4607182418800017408 (FM z (FA 13826050856027422720 (FM z (FA 4586165620538955093 (FM z (FA 13787419979223755799 (FM z (FA 4537941361671905306 (FM z (FA 13732177094651715420 (FM z (FA 4477122120089393304 (FM z (FA 13666517717442657437 (FM z (FA 4407590220077447199 (FM z 0))))))))))))))))) % 9223372036854775808 ≠ 0
  have w0 : Wd 0 0 := ⟨by decide, by decide⟩
  have w8 := hor_step (c := 4407590220077447199) (C := 4407590220077447199) hz w0 (by decide) ⟨by decide, by decide⟩ (by decide) (by decide +kernel) 4409024035195715584 (by decide) (by decide +kernel)
  have w7 := hor_step (c := 13666517717442657437) (C := 4443145680587881629) hz w8 (by decide) ⟨by decide, by decide⟩ (by decide) (by decide +kernel) 4449556431842050048 (by decide) (by decide +kernel)
  have w6 := hor_step (c := 4477122120089393304) (C := 4477122120089393304) hz w7 (by decide) ⟨by decide, by decide⟩ (by decide) (by decide +kernel) 4485585228861014016 (by decide) (by decide +kernel)
  have w5 := hor_step (c := 13732177094651715420) (C := 4508805057796939612) hz w6 (by decide) ⟨by decide, by decide⟩ (by decide) (by decide +kernel) 4517110426252607488 (by decide) (by decide +kernel)
  have w4 := hor_step (c := 4537941361671905306) (C := 4537941361671905306) hz w5 (by decide) ⟨by decide, by decide⟩ (by decide) (by decide +kernel) 4544132024016830464 (by decide) (by decide +kernel)
  have w3 := hor_step (c := 13787419979223755799) (C := 4564047942368979991) hz w4 (by decide) ⟨by decide, by decide⟩ (by decide) (by decide +kernel) 4571153621781053440 (by decide) (by decide +kernel)
  have w2 := hor_step (c := 4586165620538955093) (C := 4586165620538955093) hz w3 (by decide) ⟨by decide, by decide⟩ (by decide) (by decide +kernel) 4593671619917905920 (by decide) (by decide +kernel)
  have w1 := hor_step (c := 13826050856027422720) (C := 4602678819172646912) hz w2 (by decide) ⟨by decide, by decide⟩ (by decide) (by decide +kernel) 4607182418800017408 (by decide) (by decide +kernel)
  have wt := FM_wd hz w1 (by decide) (by decide) w78 (by decide) (by decide +kernel)
  exact FA_ne (by decide) (Nat.lt_of_le_of_lt wt.2 (by decide))
end Go.Proofs.YtinopkmcddjgdaaGreatDoor
