/-
  Quotients by what is nearly one; the datum's own words, there. No Go text is named here.
-/
import Derived.Test.YtmiamfnnccjmeacDoorDatW
namespace Go.Proofs.YtmiamfnnccjmeacDoor.FB
open Ieee

theorem half_word {k w : Nat} (h : Le k w) (hk : k ≤ 2046) (hv : 99 / 100 ≤ val w) : 4602678819172646912 ≤ w ∧ w < 9218868437227405312 := by
  have h2 := one_word h hk hv
  refine ⟨?_, h2.2⟩
  have hv2 : val 4602678819172646912 < 99 / 100 := by
    have := val_le_of (w := 4602678819172646912) 1 2 (by decide) (by decide) (by decide +kernel)
    grind
  have hlt : val 4602678819172646912 < val w := by grind
  have hk2 := val_lt hlt
  have c : key 4602678819172646912 = 4602678819172646912 := rfl
  rw [c] at hk2
  unfold key at hk2
  split at hk2 <;> omega
theorem div_le3 {k a q : Nat} (ha : Le k a) (hk1 : 1 ≤ k) (hk2 : k + 3 ≤ 2046) (hq0 : 4602678819172646912 ≤ q) (hq1 : q < 9218868437227405312) : ∃ r, double.div a q = some r ∧ Le (k + 3) r := by
  obtain ⟨s, m, i, h1, h2, h3, h4⟩ := read_le ha hk1 (by omega)
  have hr := read_normal (r := q) (by omega) hq1
  have hmod := Nat.mod_lt q (show 0 < 4503599627370496 by decide)
  have hdiv : 1022 ≤ q / 4503599627370496 := (Nat.le_div_iff_mul_le (by decide)).2 (by omega)
  generalize hN : 4503599627370496 + q % 4503599627370496 = n at hr
  have hn0 : n ≠ 0 := by omega
  have h52 : (2 : Nat) ^ 52 = 4503599627370496 := by decide
  have h53 : (2 : Nat) ^ 53 = 9007199254740992 := by decide
  have hnl : n.log2 = 52 := by
    have a1 : n.log2 < 53 := (Nat.log2_lt hn0).2 (by omega)
    have a2 : ¬ n.log2 < 52 := fun c => by have := (Nat.log2_lt hn0).1 c; omega
    omega
  unfold Format.div
  rw [h1, hr]
  simp only [Datum.quotient]
  rw [if_neg hn0]
  refine ⟨_, rfl, ?_⟩
  show Le (k + 3) (double.nearest _ _ _)
  have hf : double.fractionBits = 52 := rfl
  rw [hf, hnl]
  have hml : m.log2 ≤ 52 := by
    rcases Nat.eq_zero_or_pos m with c | c
    · subst c; decide
    · have : m.log2 < 53 := (Nat.log2_lt (by omega)).2 h2
      omega
  generalize hmore : 52 + 2 + 52 - m.log2 = more
  have hdd : m <<< more / n < 2 ^ 55 := by
    rw [Nat.shiftLeft_eq]
    refine Nat.div_lt_of_lt_mul ?_
    have e1 : m * 2 ^ more < 2 ^ (m.log2 + 1) * 2 ^ more := Nat.mul_lt_mul_of_pos_right Nat.lt_log2_self (Nat.two_pow_pos _)
    rw [← Nat.pow_add, show m.log2 + 1 + more = 52 + 55 by omega, Nat.pow_add, h52] at e1
    exact Nat.lt_of_lt_of_le e1 (Nat.mul_le_mul_right _ (by omega))
  have hb : ∀ b : Bool, b.toNat ≤ 1 := by intro b; cases b <;> decide
  have hb2 := hb (m <<< more % n != 0)
  have h55 : (2 : Nat) ^ 55 = 36028797018963968 := by decide
  have h57 : (2 : Nat) ^ 57 = 144115188075855872 := by decide
  rcases nearest_le (s ^^ false) (2 * (m <<< more / n) + (m <<< more % n != 0).toNat) (i - (-1074 + ((q / 4503599627370496 - 1 : Nat) : Int)) - (more : Int) - 1) 57 (k + 3) (by omega) (by omega) (by clear hdd hb2 hb h55 h57 h52 h53 h2; omega) with h | h
  · exact h
  · omega
theorem divQ {k l : Nat} {M : Rat} {x q : Nat} (hx : Q k M x) (hk1 : 1 ≤ k) (hk2 : k + 3 ≤ 2046) (hq : Le l q) (hl : l ≤ 2046) (hv : 99 / 100 ≤ val q) (E : Rat) (hE : 2 * M / 4503599627370496 + ulp ≤ E) : double.div x q = some (FD x q) ∧ Le (k + 3) (FD x q) ∧ ∃ d, d * val q = val x ∧ Nr E (val (FD x q)) d ∧ Sz (2 * M) d := by
  obtain ⟨q0, q1⟩ := half_word hq hl hv
  obtain ⟨r, hr, hle⟩ := div_le3 hx.le hk1 hk2 q0 q1
  have e : FD x q = r := by unfold FD; rw [hr]; rfl
  rw [← e] at hr hle
  have qp : 0 < val q := by grind
  have hqi := Rat.mul_inv_cancel (val q) (by grind)
  have hd : val x * (val q)⁻¹ * val q = val x := by rw [Rat.mul_assoc, Rat.mul_comm _ (val q), hqi, Rat.mul_one]
  obtain ⟨s1, s2⟩ := hx.sz
  have hM : 0 ≤ M := by grind
  have hs : Sz (2 * M) (val x * (val q)⁻¹) := by
    generalize val x * (val q)⁻¹ = d at hd
    have hmq : M ≤ 2 * M * val q := by
      have := Rat.mul_nonneg (a := 2 * M) (b := val q - 1 / 2) (by grind) (by grind)
      grind
    constructor
    · refine Rat.le_of_mul_le_mul_right (c := val q) ?_ qp
      grind
    · refine Rat.le_of_mul_le_mul_right (c := val q) ?_ qp
      grind
  refine ⟨hr, hle, _, hd, ?_, hs⟩
  exact (off2_nr (div_val hx.le.1 hq.1 (hx.le.fin (by omega)) (hq.fin hl) (by omega) (hle.fin hk2) _ _ hd hs.1 hs.2)).mono hE
/-- How many times as long: its words. -/
def kD (sc : Nat) : Nat := FA 4607182418800017408 (FM sc 4517329193108106637)
theorem one_Q : Q 1023 1 4607182418800017408 := by
  refine ⟨⟨by decide, by decide⟩, ?_⟩
  have h1 := val_le_of (w := 4607182418800017408) 1 1 (by decide) (by decide) (by decide +kernel)
  have h2 := val_ge_of (w := 4607182418800017408) 1 1 (by decide) (by decide) (by decide +kernel)
  constructor <;> grind
theorem one_val : val 4607182418800017408 = 1 := by
  have h1 := val_le_of (w := 4607182418800017408) 1 1 (by decide) (by decide) (by decide +kernel)
  have h2 := val_ge_of (w := 4607182418800017408) 1 1 (by decide) (by decide) (by decide +kernel)
  grind
theorem c6_Q : Q 1004 (2 / 1000000) 4517329193108106637 := by
  refine ⟨⟨by decide, by decide⟩, ?_⟩
  have h1 := val_le_of (w := 4517329193108106637) 2 1000000 (by decide) (by decide) (by decide +kernel)
  have h2 := val_ge_of (w := 4517329193108106637) 0 1 (by decide) (by decide) (by decide +kernel)
  constructor <;> grind
theorem k_Q {sc : Nat} (h : Q 1033 1000 sc) : Q 1025 (101 / 100) (kD sc) ∧ 99 / 100 ≤ val (kD sc) := by
  have hu := ulp_small
  obtain ⟨l1, n1⟩ := mulQ h c6_Q (by decide) (by decide) (by decide) (by decide) 1016 (by decide) (by decide) (by decide) (1 / 1000000) (by grind)
  have hp := prod_le h.sz c6_Q.sz
  have q1 := Q.near l1 n1 hp (3 / 1000) (by grind)
  obtain ⟨l2, n2⟩ := addQ one_Q (q1.up (show 1016 ≤ 1023 by decide)) (by decide) (by decide) (1 / 1000000) (by grind)
  have o := one_val
  obtain ⟨a1, a2⟩ := n2
  obtain ⟨b1, b2⟩ := q1.sz
  refine ⟨⟨l2, ?_⟩, ?_⟩
  · unfold kD; constructor <;> grind
  · unfold kD; grind
end Go.Proofs.YtmiamfnnccjmeacDoor.FB
