/-
  What the operations give is no NaN where the operands are numbers; square roots are finite. No Go text is named here.
-/
import Derived.Test.YtmiamfnnccjmeacDoorKey
namespace Go.Proofs.YtmiamfnnccjmeacDoor.FB
open Ieee

theorem word_nn (neg : Bool) {r : Nat} (h : r ≤ 9218868437227405312) : NN (double.word neg r) := by
  unfold Format.word NN
  rw [sw]
  split <;> constructor <;> omega
theorem nearest_nn (neg : Bool) (mag : Nat) (place : Int) : NN (double.nearest neg mag place) := by
  unfold Format.nearest
  split
  · exact word_nn neg (by omega)
  · refine word_nn neg ?_
    rw [ir]
    exact Nat.min_le_right _ _
theorem nearest_pos (mag : Nat) (place : Int) : 0 ≤ key (double.nearest false mag place) := by
  have h : double.nearest false mag place ≤ 9218868437227405312 := by
    unfold Format.nearest Format.word
    split
    · simp
    · simp only [Bool.false_eq_true, if_false]
      rw [ir]
      exact Nat.min_le_right _ _
  unfold key
  rw [if_pos (by omega)]; omega
theorem add_nn {x y : Nat} (hx : Num x) (hy : Num y) : ∃ r, double.add x y = some r ∧ NN r := by
  obtain ⟨s, m, i, rx⟩ := hx
  obtain ⟨t, n, j, ry⟩ := hy
  unfold Format.add
  rw [rx, ry]
  exact ⟨_, rfl, nearest_nn _ _ _⟩
theorem sub_nn {x y : Nat} (hx : Num x) (hy : Num y) : ∃ r, double.sub x y = some r ∧ NN r := by
  obtain ⟨s, m, i, rx⟩ := hx
  obtain ⟨t, n, j, ry⟩ := hy
  unfold Format.sub
  rw [rx, ry]
  exact ⟨_, rfl, nearest_nn _ _ _⟩
theorem mul_nn {x y : Nat} (hx : Num x) (hy : Num y) : ∃ r, double.mul x y = some r ∧ NN r := by
  obtain ⟨s, m, i, rx⟩ := hx
  obtain ⟨t, n, j, ry⟩ := hy
  unfold Format.mul
  rw [rx, ry]
  exact ⟨_, rfl, nearest_nn _ _ _⟩
theorem key_ne_zero {x : Nat} (h : key x ≠ 0) : x % 9223372036854775808 ≠ 0 := by
  intro c; apply h; unfold key; split <;> omega
theorem div_nn {x y : Nat} (hx : Num x) (hy : Num y) (h0 : key y ≠ 0) : ∃ r, double.div x y = some r ∧ NN r := by
  obtain ⟨s, m, i, rx⟩ := hx
  obtain ⟨t, n, j, ry⟩ := hy
  have hn : n ≠ 0 := fun c => key_ne_zero h0 ((num_bd ry).2.2.2.1 c)
  unfold Format.div
  rw [rx, ry]
  simp only [Datum.quotient]
  rw [if_neg hn]
  exact ⟨_, rfl, nearest_nn _ _ _⟩

theorem root_spec (n : Nat) : ∀ (todo root : Nat), root * root ≤ n → n < (root + 2 ^ todo) * (root + 2 ^ todo) → Datum.rootFrom n todo root * Datum.rootFrom n todo root ≤ n ∧ n < (Datum.rootFrom n todo root + 1) * (Datum.rootFrom n todo root + 1) := by
  intro todo
  induction todo with
  | zero => intro root h1 h2; exact ⟨h1, h2⟩
  | succ k ih =>
    intro root h1 h2
    unfold Datum.rootFrom
    rw [Nat.one_shiftLeft]
    simp only
    by_cases c : (root + 2 ^ k) * (root + 2 ^ k) ≤ n
    · rw [if_pos c]
      refine ih _ c ?_
      rw [show root + 2 ^ k + 2 ^ k = root + 2 ^ (k + 1) by rw [Nat.pow_succ]; omega]
      exact h2
    · rw [if_neg c]
      exact ih _ h1 (by omega)
theorem root_of (n : Nat) : Datum.rootFrom n (n.log2 / 2 + 1) 0 * Datum.rootFrom n (n.log2 / 2 + 1) 0 ≤ n ∧ n < (Datum.rootFrom n (n.log2 / 2 + 1) 0 + 1) * (Datum.rootFrom n (n.log2 / 2 + 1) 0 + 1) := by
  refine root_spec n _ 0 (Nat.zero_le _) ?_
  rw [Nat.zero_add, ← Nat.pow_add]
  exact Nat.lt_of_lt_of_le Nat.lt_log2_self (Nat.pow_le_pow_right (by decide) (by omega))
theorem sq_lt {a b : Nat} (h : a * a < b * b) : a < b := by
  rcases Nat.lt_or_ge a b with c | c
  · exact c
  · have := Nat.mul_le_mul c c; omega

/-- The root of a number from 0 on: finite, from 0 on. -/
theorem sqrt_nn {x : Nat} (hx : Num x) (h0 : 0 ≤ key x) (hw : x < 18446744073709551616) : ∃ r, double.sqrt x = some r ∧ NN r ∧ 0 ≤ key r ∧ key r < 9218868437227405312 := by
  obtain ⟨s, m, i, rx⟩ := hx
  obtain ⟨b1, b2, b3, b4, b5⟩ := num_bd rx
  unfold Format.sqrt
  rw [rx]
  simp only [Datum.root]
  by_cases hm : m = 0
  · rw [if_pos hm]
    refine ⟨_, rfl, nearest_nn _ _ _, ?_⟩
    show 0 ≤ key (double.nearest s m i) ∧ key (double.nearest s m i) < 9218868437227405312
    unfold Format.nearest Format.word
    rw [if_pos hm, sw]
    cases s <;> decide
  · rw [if_neg hm]
    have hs : s = false := by
      rw [b5]
      have hlow : x < 9223372036854775808 := by
        rcases Nat.lt_or_ge x 9223372036854775808 with c | c
        · exact c
        · have hz : x % 9223372036854775808 = 0 := by unfold key at h0; rw [if_neg (by omega)] at h0; omega
          exfalso
          rw [read_eq, hz] at rx
          simp at rx
          exact hm rx.2.1.symm
      rw [Nat.div_eq_of_lt hlow]; rfl
    rw [if_neg (by rw [hs]; decide)]
    refine ⟨_, rfl, nearest_nn _ _ _, nearest_pos _ _, ?_⟩
    have hf : double.fractionBits = 52 := rfl
    rw [hf]
    generalize hmore : 2 * (52 + 2) - m.log2 + ((i - ((2 * (52 + 2) - m.log2 : Nat) : Int)) % 2).toNat = more
    have hlog : m.log2 ≤ 52 := by
      have : m.log2 < 53 := (Nat.log2_lt hm).2 (by omega)
      omega
    have hmo : more ≤ 109 - m.log2 ∧ 56 ≤ more := by omega
    have hn : m <<< more < 2 ^ 110 := by
      rw [Nat.shiftLeft_eq]
      have h1 : m < 2 ^ (m.log2 + 1) := Nat.lt_log2_self
      have h2 : m * 2 ^ more < 2 ^ (m.log2 + 1) * 2 ^ more := Nat.mul_lt_mul_of_pos_right h1 (Nat.two_pow_pos _)
      rw [← Nat.pow_add] at h2
      exact Nat.lt_of_lt_of_le h2 (Nat.pow_le_pow_right (by decide) (by omega))
    have hr := (root_of (m <<< more)).1
    generalize Datum.rootFrom (m <<< more) ((m <<< more).log2 / 2 + 1) 0 = q at hr ⊢
    have hq : q < 2 ^ 55 := sq_lt (by rw [← Nat.pow_add]; omega)
    have hb : (q * q != m <<< more).toNat ≤ 1 := by cases (q * q != m <<< more) <;> decide
    have hl := nearest_le false (2 * q + (q * q != m <<< more).toNat) ((i - (more : Int)) / 2 - 1) 56 1536 (by omega) (by decide) (by omega)
    rcases hl with hl | hl
    · have h2 := hl.2
      have h1 := hl.1
      have hp := nearest_pos (2 * q + (q * q != m <<< more).toNat) ((i - (more : Int)) / 2 - 1)
      show key (double.nearest false (2 * q + (q * q != m <<< more).toNat) ((i - (more : Int)) / 2 - 1)) < _
      generalize double.nearest false (2 * q + (q * q != m <<< more).toNat) ((i - (more : Int)) / 2 - 1) = r at h1 h2 hp ⊢
      unfold key at hp ⊢
      clear hmo hn hr hq hb hmore
      split at hp <;> omega
    · omega
end Go.Proofs.YtmiamfnnccjmeacDoor.FB
