/-
  Bounds from below; roots and quotients that are finite. No Go text is named here.
-/
import Derived.Test.YtmiamfnnccjmeacDoorFltO
import Derived.Test.YtmiamfnnccjmeacDoorFltN
namespace Go.Proofs.YtmiamfnnccjmeacDoor.FB
open Ieee

theorem cut_ge (neg : Bool) (n drop m : Nat) (h : m * 2 ^ drop ≤ n) : m ≤ Toward.even.cut neg n drop := by
  unfold Toward.cut
  simp only
  by_cases hd : drop ≤ n.log2 + 2
  · rw [Nat.min_eq_left hd, Nat.one_shiftLeft]
    have : m ≤ n / 2 ^ drop := (Nat.le_div_iff_mul_le (Nat.two_pow_pos drop)).2 h
    omega
  · rw [Nat.min_eq_right (by omega), Nat.one_shiftLeft]
    have h1 : n < 2 ^ (n.log2 + 1) := Nat.lt_log2_self
    have h2 : 2 ^ (n.log2 + 1) ≤ 2 ^ drop := Nat.pow_le_pow_right (by decide) (by omega)
    have hm : m = 0 := by
      rcases Nat.eq_zero_or_pos m with h0 | h0
      · exact h0
      · have : 2 ^ drop ≤ m * 2 ^ drop := Nat.le_mul_of_pos_left _ h0
        omega
    rw [hm]; exact Nat.zero_le _
theorem word_le_vl (B : Nat) : B ≤ vl B := by
  obtain ⟨q, m, e1, e2, _, h⟩ := word_parts B
  rw [e2]
  rcases h with rfl | h
  · simp at e1 ⊢; omega
  · have hq : q + 1 ≤ 2 ^ q := Nat.lt_two_pow_self
    have h1 : m * (q + 1) ≤ m * 2 ^ q := Nat.mul_le_mul_left _ hq
    have h2 : q * 4503599627370496 ≤ q * m := Nat.mul_le_mul_left _ h
    rw [Nat.mul_add, Nat.mul_one, Nat.mul_comm m q] at h1
    omega
theorem nearest_ge (mag : Nat) (place : Int) (B : Nat) (hB : B < 9218868437227405312) (h : vl B * 2 ^ (-1074 - place).toNat ≤ mag * 2 ^ (place + 1074).toNat) : B ≤ double.nearest false mag place := by
  unfold Format.nearest
  have hword : ∀ r, B ≤ r → B ≤ double.word false r := by
    intro r hr
    unfold Format.word
    simp; exact hr
  by_cases h0 : mag = 0
  · rw [if_pos h0]
    refine hword 0 ?_
    rw [h0, Nat.zero_mul] at h
    have := word_le_vl B
    have hz : vl B = 0 := by
      rcases Nat.eq_zero_or_pos (vl B) with c | c
      · exact c
      · have := Nat.mul_pos c (Nat.two_pow_pos (-1074 - place).toNat); omega
    omega
  rw [if_neg h0]
  simp only
  refine hword _ ?_
  rw [ir]
  refine Nat.le_min.2 ⟨?_, Nat.le_of_lt hB⟩
  have hf : (double.fractionBits : Int) = 52 := by rfl
  rw [bn, lp, hf]
  obtain ⟨qB, mB, eB, vB, mB53, hmB⟩ := word_parts B
  have h1 : mag < 2 ^ (mag.log2 + 1) := Nat.lt_log2_self
  have h2 : 2 ^ mag.log2 ≤ mag := Nat.log2_self_le h0
  by_cases hc : place + (mag.log2 : Int) - 52 ≤ -1074
  · rw [Int.max_eq_right hc]
    have e0 : ((-1074 : Int) - -1074).toNat = 0 := by decide
    rw [e0]
    have ea : (place - -1074).toNat = (place + 1074).toNat := by omega
    rw [ea]
    have hcut := cut_ge false (mag <<< (place + 1074).toNat) (-1074 - place).toNat (vl B) (by rw [Nat.shiftLeft_eq]; exact h)
    have := word_le_vl B
    omega
  · rw [Int.max_eq_left (by omega)]
    generalize hL : mag.log2 = L at *
    generalize ha : (place + 1074).toNat = a at *
    generalize hb : (-1074 - place).toNat = b at *
    obtain ⟨q, hq⟩ : ∃ q : Nat, place + (L : Int) - 52 - -1074 = q := ⟨(place + (L : Int) - 52 - -1074).toNat, by omega⟩
    rw [hq]
    have e1 : (place - (place + (L : Int) - 52)).toNat = 52 - L := by omega
    have e2 : (place + (L : Int) - 52 - place).toNat = L - 52 := by omega
    rw [e1, e2, Int.toNat_natCast]
    have hc52 : 2 ^ 52 ≤ Toward.even.cut false (mag <<< (52 - L)) (L - 52) := by
      refine cut_ge _ _ _ _ ?_
      rw [Nat.shiftLeft_eq]
      by_cases hp : L ≤ 52
      · rw [show L - 52 = 0 by omega, Nat.pow_zero, Nat.mul_one]
        have : 2 ^ L * 2 ^ (52 - L) ≤ mag * 2 ^ (52 - L) := Nat.mul_le_mul_right _ h2
        rw [← Nat.pow_add, show L + (52 - L) = 52 by omega] at this
        exact this
      · rw [show 52 - L = 0 by omega, Nat.pow_zero, Nat.mul_one, ← Nat.pow_add, show 52 + (L - 52) = L by omega]
        exact h2
    have h52 : (2 : Nat) ^ 52 = 4503599627370496 := by decide
    rw [h52] at hc52
    by_cases hlt : qB < q
    · have : (qB + 1) * 4503599627370496 ≤ q * 4503599627370496 := Nat.mul_le_mul_right _ (by omega)
      rw [Nat.add_mul] at this
      generalize Toward.even.cut false _ _ = c at hc52 ⊢
      omega
    · have hm52 : 4503599627370496 ≤ mB := by rcases hmB with h | h <;> omega
      have hle : qB ≤ q := by
        have s1 : mag * 2 ^ a < 2 ^ (L + 1 + a) := by rw [Nat.pow_add]; exact Nat.mul_lt_mul_of_pos_right h1 (Nat.two_pow_pos _)
        have s2 : 2 ^ (52 + qB + b) ≤ vl B * 2 ^ b := by
          rw [vB, Nat.pow_add, Nat.pow_add]
          exact Nat.mul_le_mul_right _ (Nat.mul_le_mul_right _ (by rw [h52]; exact hm52))
        have s3 : 2 ^ (52 + qB + b) < 2 ^ (L + 1 + a) := by omega
        have s4 : 52 + qB + b < L + 1 + a := (Nat.pow_lt_pow_iff_right (by decide)).1 s3
        omega
      have hqq : q = qB := by omega
      subst hqq
      have hcut : mB ≤ Toward.even.cut false (mag <<< (52 - L)) (L - 52) := by
        refine cut_ge _ _ _ _ ?_
        rw [Nat.shiftLeft_eq]
        rw [vB] at h
        by_cases hp : L ≤ 52
        · rw [show L - 52 = 0 by omega, Nat.pow_zero, Nat.mul_one]
          have ea : a = (52 - L) + (q + b) := by omega
          rw [ea, Nat.pow_add, ← Nat.mul_assoc, Nat.mul_assoc mB, ← Nat.pow_add] at h
          exact Nat.le_of_mul_le_mul_right h (Nat.two_pow_pos _)
        · rw [show 52 - L = 0 by omega, Nat.pow_zero, Nat.mul_one]
          rw [Nat.mul_assoc, ← Nat.pow_add, show q + b = (L - 52) + a by omega, Nat.pow_add, ← Nat.mul_assoc] at h
          exact Nat.le_of_mul_le_mul_right h (Nat.two_pow_pos _)
      generalize Toward.even.cut false _ _ = c at hcut ⊢
      omega
theorem near_lt (mag : Nat) (place : Int) : double.nearest false mag place ≤ 9218868437227405312 := by
  unfold Format.nearest Format.word
  by_cases h0 : mag = 0
  · rw [if_pos h0]; simp
  · rw [if_neg h0]; simp only
    rw [ir]
    simp only [Bool.false_eq_true, if_false]
    exact Nat.min_le_right _ _
/-- A difference from something greater is positive. -/
theorem FS_pos {x y : Nat} (hx : x < 9218868437227405312) (hy : y % 9223372036854775808 < x) : FS x y ≠ 0 ∧ FS x y ≤ 9218868437227405312 := by
  obtain ⟨m, e, hr, he, hv⟩ := read_pos hx
  obtain ⟨t, n, f, hs, hf, hw⟩ := read_mag (x := y) (by omega)
  have h1 := vl_lt hy
  rw [hv, hw] at h1
  unfold FS Format.sub
  rw [hr, hs]
  generalize hb : min e f = base
  have h2 : n * 2 ^ (f - base).toNat * 2 ^ (base + 1074).toNat < m * 2 ^ (e - base).toNat * 2 ^ (base + 1074).toNat := by
    rw [Nat.mul_assoc, Nat.mul_assoc, ← Nat.pow_add, ← Nat.pow_add, show (e - base).toNat + (base + 1074).toNat = (e + 1074).toNat by omega, show (f - base).toNat + (base + 1074).toNat = (f + 1074).toNat by omega]
    exact h1
  have h3 : n * 2 ^ (f - base).toNat < m * 2 ^ (e - base).toNat := Nat.lt_of_mul_lt_mul_right h2
  have a1 := signed_false m (e - base).toNat
  have a2 := signed_abs (!t) n (f - base).toNat
  have hpos : 0 < signed false m (e - base).toNat + signed (!t) n (f - base).toNat := by omega
  show double.write (Datum.number _ (signed false m (e - min e f).toNat + signed (!t) n (f - min e f).toNat).natAbs (min e f)) ≠ 0 ∧ double.write (Datum.number _ (signed false m (e - min e f).toNat + signed (!t) n (f - min e f).toNat).natAbs (min e f)) ≤ _
  rw [hb]
  generalize signed false m (e - base).toNat + signed (!t) n (f - base).toNat = S at hpos ⊢
  rw [if_neg (by omega), decide_eq_false (by omega)]
  have hne := nearest_ne false S.natAbs base (by omega) (by omega)
  refine ⟨?_, near_lt _ _⟩
  intro hc
  apply hne
  have hc' : double.nearest false S.natAbs base = 0 := hc
  rw [hc']
theorem vl_low : ∃ k : Nat, k = 514 ∧ vl 2085166627472539648 = 2 ^ k := by
  unfold vl
  rw [if_neg (by decide)]
  obtain ⟨u, hu, hu2⟩ : ∃ u : Nat, 2085166627472539648 / 4503599627370496 - 1 = u ∧ u = 462 := ⟨_, rfl, by decide⟩
  refine ⟨52 + u, by omega, ?_⟩
  rw [hu, show 4503599627370496 + 2085166627472539648 % 4503599627370496 = 2 ^ 52 by decide, ← Nat.pow_add]
theorem sqrt_low {x : Nat} (h0 : x ≠ 0) (hx : x < 9218868437227405312) : ∃ r, double.sqrt x = some r ∧ 2085166627472539648 ≤ r ∧ r < 9218868437227405312 := by
  have hk : key x = x := by unfold key; rw [if_pos (by omega)]
  obtain ⟨r, hr, hn, k0, k1⟩ := sqrt_nn (num_pos hx) (by omega) (by omega)
  suffices hh : 2085166627472539648 ≤ r ∧ r ≤ 9218868437227405312 by
    refine ⟨r, hr, hh.1, ?_⟩
    have : key r = r := by unfold key; rw [if_pos (by omega)]
    omega
  · obtain ⟨m, i, hrd, hi, hv⟩ := read_pos hx
    have hm : m ≠ 0 := by
      rintro rfl
      rw [Nat.zero_mul] at hv
      have := word_le_vl x
      omega
    unfold Format.sqrt at hr
    rw [hrd] at hr
    simp only [Datum.root] at hr
    rw [if_neg hm, if_neg (by decide)] at hr
    have hf : double.fractionBits = 52 := rfl
    rw [hf] at hr
    generalize hmore : 2 * (52 + 2) - m.log2 + ((i - ((2 * (52 + 2) - m.log2 : Nat) : Int)) % 2).toNat = more at hr
    obtain ⟨b1, b2, b3, b4, b5⟩ := num_bd hrd
    have hlog : m.log2 ≤ 52 := by
      have : m.log2 < 53 := (Nat.log2_lt hm).2 (by omega)
      omega
    have hmo : more ≤ 109 - m.log2 ∧ 108 - m.log2 ≤ more := by omega
    have hn2 : 2 ^ 108 ≤ m <<< more := by
      rw [Nat.shiftLeft_eq]
      have h1 : 2 ^ m.log2 ≤ m := Nat.log2_self_le hm
      have h2 : 2 ^ m.log2 * 2 ^ more ≤ m * 2 ^ more := Nat.mul_le_mul_right _ h1
      rw [← Nat.pow_add] at h2
      exact Nat.le_trans (Nat.pow_le_pow_right (by decide) (by omega)) h2
    have hroot := (root_of (m <<< more)).2
    generalize Datum.rootFrom (m <<< more) ((m <<< more).log2 / 2 + 1) 0 = q at hroot hr
    have hq : 2 ^ 54 < q + 1 := sq_lt (by rw [← Nat.pow_add]; omega)
    have h54 : (2 : Nat) ^ 54 = 18014398509481984 := by decide
    rw [h54] at hq
    have hr' : double.nearest false (2 * q + (q * q != m <<< more).toNat) ((i - (more : Int)) / 2 - 1) = r := Option.some.inj hr
    rw [← hr']
    refine ⟨?_, near_lt _ _⟩
    obtain ⟨k, hk5, hvl⟩ := vl_low
    refine nearest_ge _ _ _ (by decide) ?_
    rw [hvl]
    clear hr hr' hroot hn2 hv hk b1 b3 b4 b5 k0 k1 hn hrd
    have hpl : (-593 : Int) ≤ (i - (more : Int)) / 2 - 1 := by omega
    generalize (i - (more : Int)) / 2 - 1 = pl at hpl
    generalize (q * q != m <<< more).toNat = st
    rw [show (-1074 - pl).toNat = 0 by omega, Nat.pow_zero, Nat.mul_one]
    have h5 : 2 ^ 55 ≤ 2 * q + st := by have : (2 : Nat) ^ 55 = 36028797018963968 := by decide
                                        omega
    refine Nat.le_trans ?_ (Nat.mul_le_mul_right _ h5)
    rw [← Nat.pow_add]
    exact Nat.pow_le_pow_right (by decide) (by omega)
theorem div_le {a q : Nat} (ha : Le 1053 a) (hq0 : 2085166627472539648 ≤ q) (hq1 : q < 9218868437227405312) : ∃ r, double.div a q = some r ∧ Le 1615 r := by
  obtain ⟨s, m, i, h1, h2, h3, h4⟩ := read_le ha (by decide) (by decide)
  have hr := read_normal (r := q) (by omega) hq1
  have hmod := Nat.mod_lt q (show 0 < 4503599627370496 by decide)
  have hdiv : 463 ≤ q / 4503599627370496 := (Nat.le_div_iff_mul_le (by decide)).2 (by omega)
  generalize hN : 4503599627370496 + q % 4503599627370496 = n at hr
  have hn0 : n ≠ 0 := by omega
  have h52 : (2 : Nat) ^ 52 = 4503599627370496 := by decide
  have h53 : (2 : Nat) ^ 53 = 9007199254740992 := by decide
  have hnl : n.log2 = 52 := by
    have a1 : n.log2 < 53 := (Nat.log2_lt hn0).2 (by omega)
    have a2 : ¬ n.log2 < 52 := fun c => by have := (Nat.log2_lt hn0).1 c; omega
    omega
  unfold Format.div
  rw [h1, hr]
  simp only [Datum.quotient]
  rw [if_neg hn0]
  refine ⟨_, rfl, ?_⟩
  show Le 1615 (double.nearest _ _ _)
  have hf : double.fractionBits = 52 := rfl
  rw [hf, hnl]
  have hml : m.log2 ≤ 52 := by
    rcases Nat.eq_zero_or_pos m with c | c
    · subst c; decide
    · have : m.log2 < 53 := (Nat.log2_lt (by omega)).2 h2
      omega
  generalize hmore : 52 + 2 + 52 - m.log2 = more
  have hdd : m <<< more / n < 2 ^ 55 := by
    rw [Nat.shiftLeft_eq]
    refine Nat.div_lt_of_lt_mul ?_
    have e1 : m * 2 ^ more < 2 ^ (m.log2 + 1) * 2 ^ more := Nat.mul_lt_mul_of_pos_right Nat.lt_log2_self (Nat.two_pow_pos _)
    rw [← Nat.pow_add, show m.log2 + 1 + more = 52 + 55 by omega, Nat.pow_add, h52] at e1
    exact Nat.lt_of_lt_of_le e1 (Nat.mul_le_mul_right _ (by omega))
  have hb : ∀ b : Bool, b.toNat ≤ 1 := by intro b; cases b <;> decide
  have hb2 := hb (m <<< more % n != 0)
  have h55 : (2 : Nat) ^ 55 = 36028797018963968 := by decide
  have h57 : (2 : Nat) ^ 57 = 144115188075855872 := by decide
  rcases nearest_le (s ^^ false) (2 * (m <<< more / n) + (m <<< more % n != 0).toNat) (i - (-1074 + ((q / 4503599627370496 - 1 : Nat) : Int)) - (more : Int) - 1) 57 1615 (by omega) (by decide) (by clear hdd hb2 hb h55 h57 h52 h53 h2; omega) with h | h
  · exact h
  · omega
end Go.Proofs.YtmiamfnnccjmeacDoor.FB
