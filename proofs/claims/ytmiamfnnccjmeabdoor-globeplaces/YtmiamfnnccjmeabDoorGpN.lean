/-
  Sines and cosines are at most some 1.33; the radius across the meridian is finite.
-/
import Derived.Test.YtmiamfnnccjmeabDoorGpZ
import Derived.Test.YtmiamfnnccjmeabDoorFltP
namespace Go.Proofs.YtmiamfnnccjmeabDoor
open Go.RowKit FB

theorem x_wd2 (n : Int) (h0 : 0 ≤ n) (h1 : n < 360000000000) : Wd 4605254878159502836 (xOf n) := by
  have := q_bd n h0 h1
  exact FM_wd (ofInt_wd _ (by omega)) (Y := rad) ⟨by decide, by decide⟩ (by decide) (by decide) _ (by decide) (by decide +kernel)
theorem z_wd2 (n : Int) (h0 : 0 ≤ n) (h1 : n < 360000000000) : Wd 4603759683083215831 (zOf n) :=
  FM_wd (x_wd2 n h0 h1) (x_wd2 n h0 h1) (by decide) (by decide) _ (by decide) (by decide +kernel)
theorem hor_step2 {z c p P C : Nat} (hz : Wd 4603759683083215831 z) (hp : Wd P p) (hP : P < 9218868437227405312) (hc : Wd C c) (hC : C < 9218868437227405312) (F : Nat) (hF : F < 9218868437227405312) (h1 : vl 4603759683083215831 * vl P ≤ vl F * vl 4607182418800017408) (B : Nat) (hB : B < 9218868437227405312) (h2 : vl C + vl F ≤ vl B) : Wd B (FA c (FM z p)) :=
  FA_wd hc (FM_wd hz hp (by decide) hP F hF h1) hC hF B hB h2
theorem c_wd (n : Int) (h0 : 0 ≤ n) (h1 : n < 360000000000) : Wd 4608652174707986533 (cOf n) := by
  have hz := z_wd2 n h0 h1
  unfold cOf
  generalize zOf n = z at hz
  show Wd _ (FA 4607182418800017408 (FM z (FA 13826050856027422720 (FM z (FA 4586165620538955093 (FM z (FA 13787419979223755799 (FM z (FA 4537941361671905306 (FM z (FA 13732177094651715420 (FM z (FA 4477122120089393304 (FM z (FA 13666517717442657437 (FM z (FA 4407590220077447199 (FM z 0))))))))))))))))))
  have w0 : Wd 0 0 := ⟨by decide, by decide⟩
  have w9 := hor_step2 (c := 4407590220077447199) (C := 4407590220077447199) hz w0 (by decide) ⟨by decide, by decide⟩ (by decide) 0 (by decide) (by decide +kernel) 4407590220085020584 (by decide) (by decide +kernel)
  have w8 := hor_step2 (c := 13666517717442657437) (C := 4443145680587881629) hz w9 (by decide) ⟨by decide, by decide⟩ (by decide) 4404712334114978606 (by decide) (by decide +kernel) 4443164022384742222 (by decide) (by decide +kernel)
  have w7 := hor_step2 (c := 4477122120089393304) (C := 4477122120089393304) hz w8 (by decide) ⟨by decide, by decide⟩ (by decide) 4440368836228151409 (by decide) (by decide +kernel) 4477139359943863670 (by decide) (by decide +kernel)
  have w6 := hor_step2 (c := 13732177094651715420) (C := 4508805057796939612) hz w7 (by decide) ⟨by decide, by decide⟩ (by decide) 4473851343514364362 (by decide) (by decide +kernel) 4508829591056711890 (by decide) (by decide +kernel)
  have w5 := hor_step2 (c := 4537941361671905306) (C := 4537941361671905306) hz w6 (by decide) ⟨by decide, by decide⟩ (by decide) 4505581182720518364 (by decide) (by decide +kernel) 4537992026952536990 (by decide) (by decide +kernel)
  have w4 := hor_step2 (c := 13787419979223755799) (C := 4564047942368979991) hz w5 (by decide) ⟨by decide, by decide⟩ (by decide) 4535191122266336043 (by decide) (by decide +kernel) 4564119347018138033 (by decide) (by decide +kernel)
  have w3 := hor_step2 (c := 4586165620538955093) (C := 4586165620538955093) hz w4 (by decide) ⟨by decide, by decide⟩ (by decide) 4561170113187405487 (by decide) (by decide +kernel) 4586291103200020283 (by decide) (by decide +kernel)
  have w2 := hor_step2 (c := 13826050856027422720) (C := 4602678819172646912) hz w3 (by decide) ⟨by decide, by decide⟩ (by decide) 4583258771299665542 (by decide) (by decide +kernel) 4602916367611489360 (by decide) (by decide +kernel)
  have w1 := hor_step2 (c := 4607182418800017408) (C := 4607182418800017408) hz w2 (by decide) ⟨by decide, by decide⟩ (by decide) 4599550643525888995 (by decide) (by decide +kernel) 4608652174707986533 (by decide) (by decide +kernel)
  exact w1
theorem h_wd (n : Int) (h0 : 0 ≤ n) (h1 : n < 360000000000) : Wd 4607662432105591997 (hor (csOf 1) (zOf n)) := by
  have hz := z_wd2 n h0 h1
  generalize zOf n = z at hz
  show Wd _ (FA 4607182418800017408 (FM z (FA 13818544856648471893 (FM z (FA 4575957461383581969 (FM z (FA 13774824197408792602 (FM z (FA 4523617214285662004 (FM z (FA 13716528800881525988 (FM z (FA 4460272573143870729 (FM z (FA 13648976655441704991 (FM z (FA 4389130328383466826 (FM z 0))))))))))))))))))
  have w0 : Wd 0 0 := ⟨by decide, by decide⟩
  have w9 := hor_step2 (c := 4389130328383466826) (C := 4389130328383466826) hz w0 (by decide) ⟨by decide, by decide⟩ (by decide) 0 (by decide) (by decide +kernel) 4389130328390594718 (by decide) (by decide +kernel)
  have w8 := hor_step2 (c := 13648976655441704991) (C := 4425604618586929183) hz w9 (by decide) ⟨by decide, by decide⟩ (by decide) 4386337422602247314 (by decide) (by decide +kernel) 4425621881455453669 (by decide) (by decide +kernel)
  have w7 := hor_step2 (c := 4460272573143870729) (C := 4460272573143870729) hz w8 (by decide) ⟨by decide, by decide⟩ (by decide) 4422737435598260976 (by decide) (by decide +kernel) 4460290956748335266 (by decide) (by decide +kernel)
  have w6 := hor_step2 (c := 13716528800881525988) (C := 4493156764026750180) hz w7 (by decide) ⟨by decide, by decide⟩ (by decide) 4457282779195630651 (by decide) (by decide +kernel) 4493186945078701821 (by decide) (by decide +kernel)
  have w5 := hor_step2 (c := 4523617214285662004) (C := 4523617214285662004) hz w6 (by decide) ⟨by decide, by decide⟩ (by decide) 4490298292920693519 (by decide) (by decide +kernel) 4523654035105171859 (by decide) (by decide +kernel)
  have w4 := hor_step2 (c := 13774824197408792602) (C := 4551452160554016794) hz w5 (by decide) ⟨by decide, by decide⟩ (by decide) 4520720901610530888 (by decide) (by decide +kernel) 4551515551772222931 (by decide) (by decide +kernel)
  have w3 := hor_step2 (c := 4575957461383581969) (C := 4575957461383581969) hz w4 (by decide) ⟨by decide, by decide⟩ (by decide) 4548709811229751582 (by decide) (by decide +kernel) 4576028989313659229 (by decide) (by decide +kernel)
  have w2 := hor_step2 (c := 13818544856648471893) (C := 4595172819793696085) hz w3 (by decide) ⟨by decide, by decide⟩ (by decide) 4572695477900159578 (by decide) (by decide +kernel) 4595361740291967201 (by decide) (by decide +kernel)
  have w1 := hor_step2 (c := 4607182418800017408) (C := 4607182418800017408) hz w2 (by decide) ⟨by decide, by decide⟩ (by decide) 4592344633472620544 (by decide) (by decide +kernel) 4607662432105591997 (by decide) (by decide +kernel)
  exact w1
theorem s_wd (n : Int) (h0 : 0 ≤ n) (h1 : n < 360000000000) : Wd 4606009459083700330 (sOf n) :=
  FM_wd (x_wd2 n h0 h1) (h_wd n h0 h1) (by decide) (by decide) _ (by decide) (by decide +kernel)
theorem neg_wd {B x : Nat} (h : Wd B x) : Wd B (Op.negFloat .f64 x) := ⟨(neg_abs x h.1).2, by rw [neg_mod h.1]; exact h.2⟩
/-- Both are at most that in size. -/
theorem sin_wd (n : Int) (h0 : 0 ≤ n) (h1 : n < 360000000000) : Wd 4608652174713959889 (sinV n) ∧ Wd 4608652174713959889 (cosV n) := by
  have hs := (s_wd n h0 h1).mono (show _ ≤ 4608652174713959889 by decide)
  have hc := (c_wd n h0 h1).mono (show _ ≤ 4608652174713959889 by decide)
  unfold sinV cosV
  refine ⟨?_, ?_⟩ <;> (repeat' split) <;> first | exact hs | exact hc | exact neg_wd hs | exact neg_wd hc
theorem FS_wd {X Y x y : Nat} (hx : Wd X x) (hy : Wd Y y) (hX : X < 9218868437227405312) (hY : Y < 9218868437227405312) (B : Nat) (hB : B < 9218868437227405312) (h : vl X + vl Y ≤ vl B) : Wd B (FS x y) := by
  obtain ⟨s, m, e, hr, he, hv⟩ := read_mag (x := x) (by have := hx.2; omega)
  obtain ⟨t, n, f, hs, hf, hw⟩ := read_mag (x := y) (by have := hy.2; omega)
  have h1 := vl_le hx.2
  have h2 := vl_le hy.2
  rw [hv] at h1
  rw [hw] at h2
  unfold FS Ieee.Format.sub
  rw [hr, hs]
  show Wd B (Ieee.double.nearest _ (Ieee.signed s m (e - min e f).toNat + Ieee.signed (!t) n (f - min e f).toNat).natAbs (min e f))
  refine nearest_word _ _ _ _ hB ?_
  generalize hb : min e f = base
  have a1 := signed_abs s m (e - base).toNat
  have a2 := signed_abs (!t) n (f - base).toNat
  have hle : (Ieee.signed s m (e - base).toNat + Ieee.signed (!t) n (f - base).toNat).natAbs ≤ m * 2 ^ (e - base).toNat + n * 2 ^ (f - base).toNat := by omega
  rw [show (-1074 - base).toNat = 0 by omega, Nat.pow_zero, Nat.mul_one]
  refine Nat.le_trans (Nat.mul_le_mul_right _ hle) ?_
  rw [Nat.add_mul, Nat.mul_assoc, Nat.mul_assoc, ← Nat.pow_add, ← Nat.pow_add, show (e - base).toNat + (base + 1074).toNat = (e + 1074).toNat by omega, show (f - base).toNat + (base + 1074).toNat = (f + 1074).toNat by omega]
  omega
theorem e_wd {f : Nat} (hf : Wd 4598175219545276416 f) : Wd 4603241769131134774 (eOf f) :=
  FM_wd hf (FS_wd (X := 4611686018427387904) ⟨by decide, by decide⟩ hf (by decide) (by decide) 4612248968380809216 (by decide) (by decide +kernel)) (by decide) (by decide) _ (by decide) (by decide +kernel)
theorem r_pos {f s : Nat} (hf : Wd 4598175219545276416 f) (hs : Wd 4608652174713959889 s) : rOf f s ≠ 0 ∧ rOf f s ≤ 9218868437227405312 := by
  have h1 := FM_wd (e_wd hf) hs (by decide) (by decide) 4604895244542693567 (by decide) (by decide +kernel)
  have h2 := FM_wd h1 hs (by decide) (by decide) 4607088333924331828 (by decide) (by decide +kernel)
  exact FS_pos (by decide) (Nat.lt_of_le_of_lt h2.2 (by decide))
/-- The radius across the meridian, as a word. -/
def crW (a f s : Nat) : Nat := (crO a f s).getD 0
theorem cr_ok {a f s : Nat} (ha : Le 1053 a) (hf : Wd 4598175219545276416 f) (hl : Le 1021 f) (hs : Wd 4608652174713959889 s) (hs2 : Le 1136 s) : crO a f s = some (crW a f s) ∧ Le 1615 (crW a f s) := by
  obtain ⟨h1, h2⟩ := r_pos hf hs
  have h3 : rOf f s < 9218868437227405312 := by
    have h4 : Le 1142 (FM (eOf f) s) := FM_le (e_le hl) hs2 (by decide) (by decide) (by decide) (by decide) _ (by decide) (by decide) (by decide)
    have h5 : Le 1290 (FM (FM (eOf f) s) s) := FM_le h4 hs2 (by decide) (by decide) (by decide) (by decide) _ (by decide) (by decide) (by decide)
    have h6 : Le 1292 (rOf f s) := FS_le one_le h5 (by decide) (by decide)
    have := h6.2
    omega
  obtain ⟨q, hq, q0, q1⟩ := sqrt_low h1 h3
  obtain ⟨r, hr, hle⟩ := div_le ha q0 q1
  have e : crO a f s = some r := by
    unfold crO
    have : fsq (rOf f s) = some q := hq
    rw [this]; exact hr
  unfold crW
  rw [e]
  exact ⟨rfl, hle⟩
end Go.Proofs.YtmiamfnnccjmeabDoor
