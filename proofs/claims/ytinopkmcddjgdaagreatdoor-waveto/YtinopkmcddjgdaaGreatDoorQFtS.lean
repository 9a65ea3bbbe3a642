/-
  Products and sums that are not small; cosines up to 89 degrees are not nothing. No Go text is named here.
-/
import Derived.Test.YtinopkmcddjgdaaGreatDoorQGpZ
namespace Go.Proofs.YtinopkmcddjgdaaGreatDoor
namespace FB.Low
open Ieee FB
theorem cut_ge (neg : Bool) (n drop m : Nat) (h : m * 2 ^ drop ≤ n) : m ≤ Toward.even.cut neg n drop := by
  unfold Toward.cut
  simp only
  by_cases hd : drop ≤ n.log2 + 2
  · rw [Nat.min_eq_left hd, Nat.one_shiftLeft]
    have : m ≤ n / 2 ^ drop := (Nat.le_div_iff_mul_le (Nat.two_pow_pos drop)).2 h
    omega
  · rw [Nat.min_eq_right (by omega), Nat.one_shiftLeft]
    have h1 : n < 2 ^ (n.log2 + 1) := Nat.lt_log2_self
    have h2 : 2 ^ (n.log2 + 1) ≤ 2 ^ drop := Nat.pow_le_pow_right (by decide) (by omega)
    have hm : m = 0 := by
      rcases Nat.eq_zero_or_pos m with h0 | h0
      · exact h0
      · have : 2 ^ drop ≤ m * 2 ^ drop := Nat.le_mul_of_pos_left _ h0
        omega
    rw [hm]; exact Nat.zero_le _
theorem word_le_vl (B : Nat) : B ≤ vl B := by
  obtain ⟨q, m, e1, e2, _, h⟩ := word_parts B
  rw [e2]
  rcases h with rfl | h
  · simp at e1 ⊢; omega
  · have hq : q + 1 ≤ 2 ^ q := Nat.lt_two_pow_self
    have h1 : m * (q + 1) ≤ m * 2 ^ q := Nat.mul_le_mul_left _ hq
    have h2 : q * 4503599627370496 ≤ q * m := Nat.mul_le_mul_left _ h
    rw [Nat.mul_add, Nat.mul_one, Nat.mul_comm m q] at h1
    omega
theorem nearest_ge (mag : Nat) (place : Int) (B : Nat) (hB : B < 9218868437227405312) (h : vl B * 2 ^ (-1074 - place).toNat ≤ mag * 2 ^ (place + 1074).toNat) : B ≤ double.nearest false mag place := by
  unfold Format.nearest
  have hword : ∀ r, B ≤ r → B ≤ double.word false r := by
    intro r hr
    unfold Format.word
    simp; exact hr
  by_cases h0 : mag = 0
  · rw [if_pos h0]
    refine hword 0 ?_
    rw [h0, Nat.zero_mul] at h
    have := word_le_vl B
    have hz : vl B = 0 := by
      rcases Nat.eq_zero_or_pos (vl B) with c | c
      · exact c
      · have := Nat.mul_pos c (Nat.two_pow_pos (-1074 - place).toNat); omega
    omega
  rw [if_neg h0]
  simp only
  refine hword _ ?_
  rw [ir]
  refine Nat.le_min.2 ⟨?_, Nat.le_of_lt hB⟩
  have hf : (double.fractionBits : Int) = 52 := by rfl
  rw [bn, lp, hf]
  obtain ⟨qB, mB, eB, vB, mB53, hmB⟩ := word_parts B
  have h1 : mag < 2 ^ (mag.log2 + 1) := Nat.lt_log2_self
  have h2 : 2 ^ mag.log2 ≤ mag := Nat.log2_self_le h0
  by_cases hc : place + (mag.log2 : Int) - 52 ≤ -1074
  · rw [Int.max_eq_right hc]
    have e0 : ((-1074 : Int) - -1074).toNat = 0 := by decide
    rw [e0]
    have ea : (place - -1074).toNat = (place + 1074).toNat := by omega
    rw [ea]
    have hcut := cut_ge false (mag <<< (place + 1074).toNat) (-1074 - place).toNat (vl B) (by rw [Nat.shiftLeft_eq]; exact h)
    have := word_le_vl B
    omega
  · rw [Int.max_eq_left (by omega)]
    generalize hL : mag.log2 = L at *
    generalize ha : (place + 1074).toNat = a at *
    generalize hb : (-1074 - place).toNat = b at *
    obtain ⟨q, hq⟩ : ∃ q : Nat, place + (L : Int) - 52 - -1074 = q := ⟨(place + (L : Int) - 52 - -1074).toNat, by omega⟩
    rw [hq]
    have e1 : (place - (place + (L : Int) - 52)).toNat = 52 - L := by omega
    have e2 : (place + (L : Int) - 52 - place).toNat = L - 52 := by omega
    rw [e1, e2, Int.toNat_natCast]
    have hc52 : 2 ^ 52 ≤ Toward.even.cut false (mag <<< (52 - L)) (L - 52) := by
      refine cut_ge _ _ _ _ ?_
      rw [Nat.shiftLeft_eq]
      by_cases hp : L ≤ 52
      · rw [show L - 52 = 0 by omega, Nat.pow_zero, Nat.mul_one]
        have : 2 ^ L * 2 ^ (52 - L) ≤ mag * 2 ^ (52 - L) := Nat.mul_le_mul_right _ h2
        rw [← Nat.pow_add, show L + (52 - L) = 52 by omega] at this
        exact this
      · rw [show 52 - L = 0 by omega, Nat.pow_zero, Nat.mul_one, ← Nat.pow_add, show 52 + (L - 52) = L by omega]
        exact h2
    have h52 : (2 : Nat) ^ 52 = 4503599627370496 := by decide
    rw [h52] at hc52
    by_cases hlt : qB < q
    · have : (qB + 1) * 4503599627370496 ≤ q * 4503599627370496 := Nat.mul_le_mul_right _ (by omega)
      rw [Nat.add_mul] at this
      generalize Toward.even.cut false _ _ = c at hc52 ⊢
      omega
    · have hm52 : 4503599627370496 ≤ mB := by rcases hmB with h | h <;> omega
      have hle : qB ≤ q := by
        have s1 : mag * 2 ^ a < 2 ^ (L + 1 + a) := by rw [Nat.pow_add]; exact Nat.mul_lt_mul_of_pos_right h1 (Nat.two_pow_pos _)
        have s2 : 2 ^ (52 + qB + b) ≤ vl B * 2 ^ b := by
          rw [vB, Nat.pow_add, Nat.pow_add]
          exact Nat.mul_le_mul_right _ (Nat.mul_le_mul_right _ (by rw [h52]; exact hm52))
        have s3 : 2 ^ (52 + qB + b) < 2 ^ (L + 1 + a) := by omega
        have s4 : 52 + qB + b < L + 1 + a := (Nat.pow_lt_pow_iff_right (by decide)).1 s3
        omega
      have hqq : q = qB := by omega
      subst hqq
      have hcut : mB ≤ Toward.even.cut false (mag <<< (52 - L)) (L - 52) := by
        refine cut_ge _ _ _ _ ?_
        rw [Nat.shiftLeft_eq]
        rw [vB] at h
        by_cases hp : L ≤ 52
        · rw [show L - 52 = 0 by omega, Nat.pow_zero, Nat.mul_one]
          have ea : a = (52 - L) + (q + b) := by omega
          rw [ea, Nat.pow_add, ← Nat.mul_assoc, Nat.mul_assoc mB, ← Nat.pow_add] at h
          exact Nat.le_of_mul_le_mul_right h (Nat.two_pow_pos _)
        · rw [show 52 - L = 0 by omega, Nat.pow_zero, Nat.mul_one]
          rw [Nat.mul_assoc, ← Nat.pow_add, show q + b = (L - 52) + a by omega, Nat.pow_add, ← Nat.mul_assoc] at h
          exact Nat.le_of_mul_le_mul_right h (Nat.two_pow_pos _)
      generalize Toward.even.cut false _ _ = c at hcut ⊢
      omega
theorem near_abs (neg : Bool) (mag : Nat) (place : Int) : double.nearest neg mag place % 9223372036854775808 = double.nearest false mag place := by
  have hw : ∀ (b : Bool) (r : Nat), r ≤ 9218868437227405312 → double.word b r % 9223372036854775808 = r := by
    intro b r hr
    unfold Format.word
    rw [sw]
    split <;> omega
  have hf : ∀ (r : Nat), double.word false r = r := fun r => by unfold Format.word; simp
  unfold Format.nearest
  by_cases c : mag = 0
  · rw [if_pos c, if_pos c, hw _ _ (by decide), hf]
  · rw [if_neg c, if_neg c]
    simp only
    have hc : ∀ n d, Toward.even.cut neg n d = Toward.even.cut false n d := fun _ _ => rfl
    rw [ir, hw _ _ (Nat.min_le_right _ _), hf, hc]
theorem near_ge (neg : Bool) (mag : Nat) (place : Int) (B : Nat) (hB : B < 9218868437227405312) (h : vl B * 2 ^ (-1074 - place).toNat ≤ mag * 2 ^ (place + 1074).toNat) : B ≤ double.nearest neg mag place % 9223372036854775808 := by
  rw [near_abs]; exact nearest_ge mag place B hB h
theorem FM_ge {X Y x y : Nat} (hx : X ≤ x % 9223372036854775808) (hx2 : x % 9223372036854775808 < 9218868437227405312) (hy : Y ≤ y % 9223372036854775808) (hy2 : y % 9223372036854775808 < 9218868437227405312) (B : Nat) (hB : B < 9218868437227405312) (h : vl B * vl 4607182418800017408 ≤ vl X * vl Y) : B ≤ FM x y % 9223372036854775808 := by
  obtain ⟨K, hK, eK⟩ := vl_one
  rw [eK] at h
  obtain ⟨s, m, e, hr, he, hv⟩ := read_mag (x := x) hx2
  obtain ⟨t, n, f, hs, hf, hw⟩ := read_mag (x := y) hy2
  have h1 := vl_le hx
  have h2 := vl_le hy
  rw [hv] at h1
  rw [hw] at h2
  unfold FM Format.mul
  rw [hr, hs]
  show B ≤ double.nearest _ _ _ % 9223372036854775808
  refine near_ge _ _ _ _ hB ?_
  have h3 : vl B * 2 ^ K ≤ (m * 2 ^ (e + 1074).toNat) * (n * 2 ^ (f + 1074).toNat) := Nat.le_trans h (Nat.mul_le_mul h1 h2)
  have e3 : (m * 2 ^ (e + 1074).toNat) * (n * 2 ^ (f + 1074).toNat) = m * n * 2 ^ ((e + 1074).toNat + (f + 1074).toNat) := by
    rw [Nat.pow_add, Nat.mul_mul_mul_comm]
  rw [e3] at h3
  generalize ha : (e + f + 1074).toNat = a
  generalize hb : (-1074 - (e + f)).toNat = b
  generalize hc : (e + 1074).toNat + (f + 1074).toNat = c at h3
  by_cases k : K ≤ c
  · rw [show b = 0 by omega, Nat.pow_zero, Nat.mul_one]
    rw [show c = a + K by omega, Nat.pow_add, ← Nat.mul_assoc] at h3
    exact cancel _ _ _ h3
  · rw [show a = 0 by omega, Nat.pow_zero, Nat.mul_one]
    rw [show K = b + c by omega, Nat.pow_add, ← Nat.mul_assoc] at h3
    exact cancel _ _ _ h3
theorem FA_ge {X Y x y : Nat} (hx : X ≤ x % 9223372036854775808) (hx2 : x % 9223372036854775808 < 9218868437227405312) (hy : Wd Y y) (hY : Y < 9218868437227405312) (B : Nat) (hB : B < 9218868437227405312) (h : vl B + vl Y ≤ vl X) : B ≤ FA x y % 9223372036854775808 := by
  obtain ⟨s, m, e, hr, he, hv⟩ := read_mag (x := x) hx2
  obtain ⟨t, n, f, hs, hf, hw⟩ := read_mag (x := y) (by have := hy.2; omega)
  have h1 := vl_le hx
  have h2 := vl_le hy.2
  rw [hv] at h1
  rw [hw] at h2
  unfold FA Format.add
  rw [hr, hs]
  show B ≤ double.nearest _ _ _ % 9223372036854775808
  generalize hb : min e f = base
  have hbase : -1074 ≤ base := by omega
  refine near_ge _ _ _ _ hB ?_
  rw [show ((-1074 : Int) - base).toNat = 0 by omega, Nat.pow_zero, Nat.mul_one]
  have a1 := signed_abs s m (e - base).toNat
  have a2 := signed_abs t n (f - base).toNat
  have e1 : m * 2 ^ (e + 1074).toNat = m * 2 ^ (e - base).toNat * 2 ^ (base + 1074).toNat := by
    rw [Nat.mul_assoc, ← Nat.pow_add, show (e - base).toNat + (base + 1074).toNat = (e + 1074).toNat by omega]
  have e2 : n * 2 ^ (f + 1074).toNat = n * 2 ^ (f - base).toNat * 2 ^ (base + 1074).toNat := by
    rw [Nat.mul_assoc, ← Nat.pow_add, show (f - base).toNat + (base + 1074).toNat = (f + 1074).toNat by omega]
  rw [e1] at h1
  rw [e2] at h2
  generalize Ieee.signed s m (e - base).toNat = u at a1 ⊢
  generalize Ieee.signed t n (f - base).toNat = v at a2 ⊢
  generalize m * 2 ^ (e - base).toNat = mu at *
  generalize n * 2 ^ (f - base).toNat = nv at *
  generalize 2 ^ (base + 1074).toNat = P at *
  have h3 : vl B + nv * P ≤ mu * P := by omega
  have h4 : mu ≤ (u + v).natAbs + nv := by omega
  have h5 : mu * P ≤ ((u + v).natAbs + nv) * P := Nat.mul_le_mul_right _ h4
  rw [Nat.add_mul] at h5
  omega
end FB.Low
open Go.RowKit FB FB.Low
/-- A billion and more. -/
theorem ofInt_ge (n : Int) (h : 1000000000 ≤ n.natAbs) : 4741671816366391296 ≤ floatOfInt .f64 n % 9223372036854775808 := by
  unfold floatOfInt
  show 4741671816366391296 ≤ Ieee.double.nearest _ _ _ % 9223372036854775808
  refine near_ge _ _ _ _ (by decide) ?_
  have e : vl 4741671816366391296 = 1000000000 * vl 4607182418800017408 := by decide +kernel
  obtain ⟨K, hK, eK⟩ := vl_one
  rw [e, eK, show ((0 : Int) + 1074).toNat = K by omega, show ((-1074 : Int) - 0).toNat = 0 by decide, Nat.pow_zero, Nat.mul_one]
  exact Nat.mul_le_mul_right _ h
theorem sOf_ne (n : Int) (h0 : 0 ≤ n) (h1 : n < 360000000000) (h2 : 1000000000 ≤ (n - qOf n * 90000000000).natAbs) : sOf n % 9223372036854775808 ≠ 0 := by
  have hq := q_bd n h0 h1
  have hi := ofInt_wd (n - qOf n * 90000000000) (by omega)
  have hx : 4580160821035794432 ≤ xOf n % 9223372036854775808 := FM_ge (ofInt_ge _ h2) (Nat.lt_of_le_of_lt hi.2 (by decide)) (Y := rad) (by decide) (by decide) _ (by decide) (by decide +kernel)
  have hx2 := x_wd n h0 h1
  have hz := z_wd n h0 h1
  have hh : 4602678819172646912 ≤ hor (csOf 1) (zOf n) % 9223372036854775808 ∧ hor (csOf 1) (zOf n) % 9223372036854775808 < 9218868437227405312 := by
    generalize zOf n = z at hz
    show 4602678819172646912 ≤ FA 4607182418800017408 (FM z (FA 13818544856648471893 (FM z (FA 4575957461383581969 (FM z (FA 13774824197408792602 (FM z (FA 4523617214285662004 (FM z (FA 13716528800881525988 (FM z (FA 4460272573143870729 (FM z (FA 13648976655441704991 (FM z (FA 4389130328383466826 (FM z 0))))))))))))))))) % 9223372036854775808 ∧ FA 4607182418800017408 (FM z (FA 13818544856648471893 (FM z (FA 4575957461383581969 (FM z (FA 13774824197408792602 (FM z (FA 4523617214285662004 (FM z (FA 13716528800881525988 (FM z (FA 4460272573143870729 (FM z (FA 13648976655441704991 (FM z (FA 4389130328383466826 (FM z 0))))))))))))))))) % 9223372036854775808 < 9218868437227405312
    have w0 : Wd 0 0 := ⟨by decide, by decide⟩
    have w8 := hor_step (c := 4389130328383466826) (C := 4389130328383466826) hz w0 (by decide) ⟨by decide, by decide⟩ (by decide) (by decide +kernel) 4391009636686233600 (by decide) (by decide +kernel)
    have w7 := hor_step (c := 13648976655441704991) (C := 4425604618586929183) hz w8 (by decide) ⟨by decide, by decide⟩ (by decide) (by decide +kernel) 4427038433705197568 (by decide) (by decide +kernel)
    have w6 := hor_step (c := 4460272573143870729) (C := 4460272573143870729) hz w7 (by decide) ⟨by decide, by decide⟩ (by decide) (by decide +kernel) 4463067230724161536 (by decide) (by decide +kernel)
    have w5 := hor_step (c := 13716528800881525988) (C := 4493156764026750180) hz w6 (by decide) ⟨by decide, by decide⟩ (by decide) (by decide +kernel) 4494592428115755008 (by decide) (by decide +kernel)
    have w4 := hor_step (c := 4523617214285662004) (C := 4523617214285662004) hz w5 (by decide) ⟨by decide, by decide⟩ (by decide) (by decide +kernel) 4526117625507348480 (by decide) (by decide +kernel)
    have w3 := hor_step (c := 13774824197408792602) (C := 4551452160554016794) hz w4 (by decide) ⟨by decide, by decide⟩ (by decide) (by decide +kernel) 4553139223271571456 (by decide) (by decide +kernel)
    have w2 := hor_step (c := 4575957461383581969) (C := 4575957461383581969) hz w3 (by decide) ⟨by decide, by decide⟩ (by decide) (by decide +kernel) 4580160821035794432 (by decide) (by decide +kernel)
    have w1 := hor_step (c := 13818544856648471893) (C := 4595172819793696085) hz w2 (by decide) ⟨by decide, by decide⟩ (by decide) (by decide +kernel) 4598175219545276416 (by decide) (by decide +kernel)
    have wt := FM_wd hz w1 (by decide) (by decide) 4598175219545276416 (by decide) (by decide +kernel)
    have wu := FA_wd (x := 4607182418800017408) (X := 4607182418800017408) ⟨by decide, by decide⟩ wt (by decide) (by decide) 4611686018427387904 (by decide) (by decide +kernel)
    exact ⟨FA_ge (x := 4607182418800017408) (X := 4607182418800017408) (by decide) (by decide) wt (by decide) _ (by decide) (by decide +kernel), Nat.lt_of_le_of_lt wu.2 (by decide)⟩
  have hs := FM_ge hx (Nat.lt_of_le_of_lt hx2.2 (by decide)) hh.1 hh.2 4575657221408423936 (by decide) (by decide +kernel)
  unfold sOf
  omega
theorem cos_ne89 (t : Int) (h0 : -89000000000 ≤ t) (h1 : t ≤ 89000000000) : cosV (nrm t) % 9223372036854775808 ≠ 0 := by
  by_cases c : -45000000000 ≤ t ∧ t ≤ 45000000000
  · exact cos_ne t c.1 c.2
  · obtain ⟨n0, n1⟩ := nrm_lt t
    have hl := s_le _ n0 n1
    by_cases c0 : 0 ≤ t
    · have hn := nrm_pos' c0 (by omega)
      have hq : qOf (nrm t) = 1 := by unfold qOf; rw [hn]; omega
      have : cosV (nrm t) = Op.negFloat .f64 (sOf (nrm t)) := by unfold cosV; rw [hq]; rfl
      rw [this, neg_mod hl.1]
      exact sOf_ne _ n0 n1 (by rw [hq, hn]; omega)
    · have hn := nrm_neg' (by omega) (by omega) (t := t)
      have hq : qOf (nrm t) = 3 := by unfold qOf; rw [hn]; omega
      have : cosV (nrm t) = sOf (nrm t) := by unfold cosV; rw [hq]; rfl
      rw [this]
      exact sOf_ne _ n0 n1 (by rw [hq, hn]; omega)
theorem uz_cos89 (t : Int) (h0 : -89000000000 ≤ t) (h1 : t ≤ 89000000000) : uz (cosV (nrm t)) = cosV (nrm t) := by
  obtain ⟨n0, n1⟩ := nrm_lt t
  exact uz_ne (sinV_le _ n0 n1).2 (by decide) (cos_ne89 t h0 h1)
end Go.Proofs.YtinopkmcddjgdaaGreatDoor
