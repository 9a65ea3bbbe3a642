/-
  Bounds of products and sums by words; a sum that is not nothing. No Go text is named here.
-/
import Derived.Test.YtmiamfnnccjmeacDoorFltM
namespace Go.Proofs.YtmiamfnnccjmeacDoor.FB
open Ieee

theorem vl_le {a b : Nat} (h : a ≤ b) : vl a ≤ vl b := by
  rcases Nat.lt_or_eq_of_le h with h | h
  · exact Nat.le_of_lt (vl_lt h)
  · rw [h]; exact Nat.le_refl _
/-- A finite word, read: what it stands for, in size. -/
theorem read_mag {x : Nat} (h : x % 9223372036854775808 < 9218868437227405312) : ∃ s m e, double.read x = .number s m e ∧ -1074 ≤ e ∧ vl (x % 9223372036854775808) = m * 2 ^ (e + 1074).toNat := by
  obtain ⟨m, e, hr, he, hv⟩ := read_pos h
  have hr' : double.read x = .number (x / 9223372036854775808 % 2 == 1) m e := by
    rw [read_eq] at hr ⊢
    rw [Nat.mod_mod] at hr
    by_cases c1 : x % 9223372036854775808 < 4503599627370496
    · rw [if_pos c1] at hr ⊢; injection hr with _ h5 h6; rw [h5, h6]
    · rw [if_neg c1] at hr ⊢
      rw [if_pos h] at hr ⊢; injection hr with _ h5 h6; rw [h5, h6]
  exact ⟨_, m, e, hr', he, hv⟩
theorem Wd.num {B x : Nat} (h : Wd B x) (hB : B < 9218868437227405312) : Num x := by
  obtain ⟨s, m, e, hr, _⟩ := read_mag (x := x) (by have := h.2; omega)
  exact ⟨s, m, e, hr⟩
theorem cancel (a b k : Nat) (h : a * 2 ^ k ≤ b * 2 ^ k) : a ≤ b := Nat.le_of_mul_le_mul_right h (Nat.two_pow_pos k)
theorem vl_one : ∃ k : Nat, (k : Int) = 1074 ∧ vl 4607182418800017408 = 2 ^ k := by
  unfold vl
  rw [if_neg (by decide)]
  obtain ⟨u, hu, hu2⟩ : ∃ u : Nat, 4607182418800017408 / 4503599627370496 - 1 = u ∧ u = 1022 := ⟨_, rfl, by decide⟩
  refine ⟨52 + u, by omega, ?_⟩
  rw [hu, show 4503599627370496 + 4607182418800017408 % 4503599627370496 = 2 ^ 52 by decide, ← Nat.pow_add]
theorem FM_wd {X Y x y : Nat} (hx : Wd X x) (hy : Wd Y y) (hX : X < 9218868437227405312) (hY : Y < 9218868437227405312) (B : Nat) (hB : B < 9218868437227405312) (h : vl X * vl Y ≤ vl B * vl 4607182418800017408) : Wd B (FM x y) := by
  obtain ⟨K, hK, eK⟩ := vl_one
  rw [eK] at h
  obtain ⟨s, m, e, hr, he, hv⟩ := read_mag (x := x) (by have := hx.2; omega)
  obtain ⟨t, n, f, hs, hf, hw⟩ := read_mag (x := y) (by have := hy.2; omega)
  have h1 := vl_le hx.2
  have h2 := vl_le hy.2
  rw [hv] at h1
  rw [hw] at h2
  unfold FM Format.mul
  rw [hr, hs]
  show Wd B (double.nearest _ _ _)
  refine nearest_word _ _ _ _ hB ?_
  have h3 : (m * 2 ^ (e + 1074).toNat) * (n * 2 ^ (f + 1074).toNat) ≤ vl B * 2 ^ K := Nat.le_trans (Nat.mul_le_mul h1 h2) h
  have e3 : (m * 2 ^ (e + 1074).toNat) * (n * 2 ^ (f + 1074).toNat) = m * n * 2 ^ ((e + 1074).toNat + (f + 1074).toNat) := by
    rw [Nat.pow_add, Nat.mul_mul_mul_comm]
  rw [e3] at h3
  generalize ha : (e + f + 1074).toNat = a
  generalize hb : (-1074 - (e + f)).toNat = b
  generalize hc : (e + 1074).toNat + (f + 1074).toNat = c at h3
  by_cases k : K ≤ c
  · rw [show b = 0 by omega, Nat.pow_zero, Nat.mul_one]
    rw [show c = a + K by omega, Nat.pow_add, ← Nat.mul_assoc] at h3
    exact cancel _ _ _ h3
  · rw [show a = 0 by omega, Nat.pow_zero, Nat.mul_one]
    rw [show K = b + c by omega, Nat.pow_add, ← Nat.mul_assoc] at h3
    exact cancel _ _ _ h3
theorem FA_wd {X Y x y : Nat} (hx : Wd X x) (hy : Wd Y y) (hX : X < 9218868437227405312) (hY : Y < 9218868437227405312) (B : Nat) (hB : B < 9218868437227405312) (h : vl X + vl Y ≤ vl B) : Wd B (FA x y) := by
  obtain ⟨s, m, e, hr, he, hv⟩ := read_mag (x := x) (by have := hx.2; omega)
  obtain ⟨t, n, f, hs, hf, hw⟩ := read_mag (x := y) (by have := hy.2; omega)
  have h1 := vl_le hx.2
  have h2 := vl_le hy.2
  rw [hv] at h1
  rw [hw] at h2
  unfold FA Format.add
  rw [hr, hs]
  show Wd B (double.nearest _ _ _)
  refine nearest_word _ _ _ _ hB ?_
  generalize hb : min e f = base
  have a1 := signed_abs s m (e - base).toNat
  have a2 := signed_abs t n (f - base).toNat
  have hle : (signed s m (e - base).toNat + signed t n (f - base).toNat).natAbs ≤ m * 2 ^ (e - base).toNat + n * 2 ^ (f - base).toNat := by omega
  rw [show (-1074 - base).toNat = 0 by omega, Nat.pow_zero, Nat.mul_one]
  refine Nat.le_trans (Nat.mul_le_mul_right _ hle) ?_
  rw [Nat.add_mul, Nat.mul_assoc, Nat.mul_assoc, ← Nat.pow_add, ← Nat.pow_add, show (e - base).toNat + (base + 1074).toNat = (e + 1074).toNat by omega, show (f - base).toNat + (base + 1074).toNat = (f + 1074).toNat by omega]
  omega
/-- A magnitude that is not nothing is not rounded to nothing. -/
theorem nearest_ne (neg : Bool) (mag : Nat) (place : Int) (h0 : mag ≠ 0) (hp : -1074 ≤ place) : double.nearest neg mag place % 9223372036854775808 ≠ 0 := by
  unfold Format.nearest
  rw [if_neg h0]
  simp only
  have hf : (double.fractionBits : Int) = 52 := by rfl
  rw [bn, lp, hf, ir]
  have hword : ∀ r, r ≠ 0 → r ≤ 9218868437227405312 → double.word neg r % 9223372036854775808 ≠ 0 := by
    intro r hr hr2
    unfold Format.word
    rw [sw]
    split <;> omega
  refine hword _ ?_ (Nat.min_le_right _ _)
  by_cases hc : place + (mag.log2 : Int) - 52 ≤ -1074
  · rw [Int.max_eq_right hc]
    have e1 : (-1074 - place).toNat = 0 := by omega
    rw [e1]
    have e2 := cut_exact neg (mag <<< (place - -1074).toNat) 0
    rw [Nat.pow_zero, Nat.mul_one] at e2
    rw [e2, Nat.shiftLeft_eq]
    have : 0 < mag * 2 ^ (place - -1074).toNat := Nat.mul_pos (Nat.pos_of_ne_zero h0) (Nat.two_pow_pos _)
    omega
  · rw [Int.max_eq_left (by omega)]
    obtain ⟨q, hq⟩ : ∃ q : Nat, place + (mag.log2 : Int) - 52 - -1074 = q := ⟨(place + (mag.log2 : Int) - 52 - -1074).toNat, by omega⟩
    rw [hq, Int.toNat_natCast]
    have : 4503599627370496 ≤ q * 4503599627370496 := Nat.le_mul_of_pos_left _ (by omega)
    omega
theorem FA_ne {x y : Nat} (hx : x % 9223372036854775808 < 9218868437227405312) (hy : y % 9223372036854775808 < x % 9223372036854775808) : FA x y % 9223372036854775808 ≠ 0 := by
  obtain ⟨s, m, e, hr, he, hv⟩ := read_mag (x := x) hx
  obtain ⟨t, n, f, hs, hf, hw⟩ := read_mag (x := y) (by omega)
  have h1 := vl_lt hy
  rw [hv, hw] at h1
  unfold FA Format.add
  rw [hr, hs]
  show double.nearest _ _ _ % 9223372036854775808 ≠ 0
  generalize hb : min e f = base
  refine nearest_ne _ _ _ ?_ (by omega)
  have a1 := signed_abs s m (e - base).toNat
  have a2 := signed_abs t n (f - base).toNat
  have h2 : n * 2 ^ (f - base).toNat * 2 ^ (base + 1074).toNat < m * 2 ^ (e - base).toNat * 2 ^ (base + 1074).toNat := by
    rw [Nat.mul_assoc, Nat.mul_assoc, ← Nat.pow_add, ← Nat.pow_add, show (e - base).toNat + (base + 1074).toNat = (e + 1074).toNat by omega, show (f - base).toNat + (base + 1074).toNat = (f + 1074).toNat by omega]
    exact h1
  have h3 : n * 2 ^ (f - base).toNat < m * 2 ^ (e - base).toNat := Nat.lt_of_mul_lt_mul_right h2
  omega
end Go.Proofs.YtmiamfnnccjmeacDoor.FB
