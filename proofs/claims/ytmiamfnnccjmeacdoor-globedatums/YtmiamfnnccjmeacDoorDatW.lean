/-
  Words by their size and what they stand for: products, sums, differences, quotients. No Go text is named here.
-/
import Derived.Test.YtmiamfnnccjmeacDoorDatR
namespace Go.Proofs.YtmiamfnnccjmeacDoor.FB
open Ieee

theorem sv_le {k l : Int} (h : k ≤ l) : sv k ≤ sv l := by
  rcases Int.lt_or_eq_of_le h with h | h
  · exact Int.le_of_lt (sv_lt h)
  · rw [h]; exact Int.le_refl _
theorem val_mono {x y : Nat} (h : key x ≤ key y) : val x ≤ val y := by
  unfold val
  exact Rat.mul_le_mul_of_nonneg_right (Rat.intCast_le_intCast.2 (sv_le h)) (Rat.le_of_lt ulp_pos)
theorem val_lt {x y : Nat} (h : val x < val y) : key x < key y := by
  by_cases c : key x < key y
  · exact c
  · have := val_mono (x := y) (y := x) (by omega); grind
theorem val_pos_word {w : Nat} (h : w < 9223372036854775808) : val w = ((vl w : Nat) : Rat) * ulp := by
  unfold val
  have hk : key w = w := by unfold key; rw [if_pos h]
  rw [hk]
  unfold sv
  rw [if_pos (by omega), Int.toNat_natCast, Rat.intCast_natCast]
/-- A word stands for at most a over b. -/
theorem val_le_of {w : Nat} (a b : Nat) (h : w < 9223372036854775808) (hb : 0 < b) (hv : b * vl w ≤ a * vl 4607182418800017408) : val w ≤ (a : Rat) / (b : Rat) := by
  rw [val_pos_word h]
  have h1 : (b : Rat) * ((vl w : Nat) : Rat) ≤ (a : Rat) * ((vl 4607182418800017408 : Nat) : Rat) := by
    rw [← Rat.natCast_mul, ← Rat.natCast_mul]; exact Rat.natCast_le_natCast.2 hv
  have hu := ulp_pos
  have u1 := ulp_one
  have h2 := Rat.mul_le_mul_of_nonneg_right h1 (Rat.le_of_lt hu)
  have hb' : (0 : Rat) < (b : Rat) := Rat.natCast_pos.2 hb
  have hbi := Rat.mul_inv_cancel (b : Rat) (by grind)
  generalize ((vl 4607182418800017408 : Nat) : Rat) = v at *
  generalize ((vl w : Nat) : Rat) = u at *
  refine Rat.le_of_mul_le_mul_right (c := (b : Rat)) ?_ hb'
  have e : (a : Rat) / (b : Rat) * (b : Rat) = a := by rw [Rat.div_def, Rat.mul_assoc, Rat.mul_comm _ (b : Rat), hbi, Rat.mul_one]
  rw [e]
  have e2 : (a : Rat) * v * ulp = a * (v * ulp) := by grind
  rw [e2, u1] at h2
  grind
theorem val_ge_of {w : Nat} (a b : Nat) (h : w < 9223372036854775808) (hb : 0 < b) (hv : a * vl 4607182418800017408 ≤ b * vl w) : (a : Rat) / (b : Rat) ≤ val w := by
  rw [val_pos_word h]
  have h1 : (a : Rat) * ((vl 4607182418800017408 : Nat) : Rat) ≤ (b : Rat) * ((vl w : Nat) : Rat) := by
    rw [← Rat.natCast_mul, ← Rat.natCast_mul]; exact Rat.natCast_le_natCast.2 hv
  have hu := ulp_pos
  have u1 := ulp_one
  have h2 := Rat.mul_le_mul_of_nonneg_right h1 (Rat.le_of_lt hu)
  have hb' : (0 : Rat) < (b : Rat) := Rat.natCast_pos.2 hb
  have hbi := Rat.mul_inv_cancel (b : Rat) (by grind)
  generalize ((vl 4607182418800017408 : Nat) : Rat) = v at *
  generalize ((vl w : Nat) : Rat) = u at *
  refine Rat.le_of_mul_le_mul_right (c := (b : Rat)) ?_ hb'
  have e : (a : Rat) / (b : Rat) * (b : Rat) = a := by rw [Rat.div_def, Rat.mul_assoc, Rat.mul_comm _ (b : Rat), hbi, Rat.mul_one]
  rw [e]
  have e2 : (a : Rat) * v * ulp = a * (v * ulp) := by grind
  rw [e2, u1] at h2
  grind
/-- The value of a word's opposite sign. -/
theorem val_neg_word {w : Nat} (h : w < 9223372036854775808) : val (9223372036854775808 + w) = -val w := by
  unfold val
  have hk : key w = w := by unfold key; rw [if_pos h]
  have hk2 : key (9223372036854775808 + w) = -(w : Int) := by unfold key; rw [if_neg (by omega)]; congr 1; omega
  rw [hk, hk2]
  have : sv (-(w : Int)) = -sv (w : Int) := by
    unfold sv
    by_cases c : w = 0
    · subst c; simp [vl_zero]
    · rw [if_neg (by omega), if_pos (by omega), Int.neg_neg]
  rw [this, Rat.intCast_neg]; grind
/-- A word by its size in binades, and what it stands for. -/
structure Q (k : Nat) (M : Rat) (w : Nat) : Prop where
  le : Le k w
  sz : Sz M (val w)
theorem Le.fin {k w : Nat} (h : Le k w) (hk : k ≤ 2046) : w % 9223372036854775808 < 9218868437227405312 := by have := h.2; omega
theorem mulQ {k l : Nat} {M N : Rat} {x y : Nat} (hx : Q k M x) (hy : Q l N y) (hk1 : 1 ≤ k) (hk : k ≤ 2046) (hl1 : 1 ≤ l) (hl : l ≤ 2046) (n : Nat) (hn : k + l ≤ n + 1021) (hn2 : n ≤ 2046) (hn1 : 2 ≤ n) (E : Rat) (hE : M * N / 9007199254740992 + ulp ≤ E) : Le n (FM x y) ∧ Nr E (val (FM x y)) (val x * val y) := by
  have h := FM_le hx.le hy.le hk1 hk hl1 hl n hn hn2 hn1
  have hp := prod_le hx.sz hy.sz
  exact ⟨h, (off_nr (mul_val hx.le.1 hy.le.1 (hx.le.fin hk) (hy.le.fin hl) (h.fin hn2) _ hp.1 hp.2)).mono hE⟩
theorem addQ {k : Nat} {M N : Rat} {x y : Nat} (hx : Q k M x) (hy : Q k N y) (hk1 : 1 ≤ k) (hk : k + 2 ≤ 2046) (E : Rat) (hE : (M + N) / 9007199254740992 + ulp ≤ E) : Le (k + 2) (FA x y) ∧ Nr E (val (FA x y)) (val x + val y) := by
  have h := FA_le hx.le hy.le hk1 hk
  have hp := Sz.add hx.sz hy.sz
  exact ⟨h, (off_nr (add_val hx.le.1 hy.le.1 (hx.le.fin (by omega)) (hy.le.fin (by omega)) (h.fin hk) _ hp.1 hp.2)).mono hE⟩
theorem subQ {k : Nat} {M N : Rat} {x y : Nat} (hx : Q k M x) (hy : Q k N y) (hk1 : 1 ≤ k) (hk : k + 2 ≤ 2046) (E : Rat) (hE : (M + N) / 9007199254740992 + ulp ≤ E) : Le (k + 2) (FS x y) ∧ Nr E (val (FS x y)) (val x - val y) := by
  have h := FS_le hx.le hy.le hk1 hk
  have hp := Sz.sub hx.sz hy.sz
  exact ⟨h, (off_nr (sub_val hx.le.1 hy.le.1 (hx.le.fin (by omega)) (hy.le.fin (by omega)) (h.fin hk) _ hp.1 hp.2)).mono hE⟩
theorem Q.up {k l : Nat} {M : Rat} {w : Nat} (h : Q k M w) (hl : k ≤ l) : Q l M w := ⟨h.le.mono hl, h.sz⟩
theorem Q.near {k : Nat} {M E : Rat} {w : Nat} {p : Rat} (h : Le k w) (hn : Nr E (val w) p) (hp : Sz M p) (N : Rat) (hN : M + E ≤ N) : Q k N w := ⟨h, (Sz.near hn hp).mono hN⟩
/-- A word that is nearly one is far from nothing. -/
theorem one_word {k w : Nat} (h : Le k w) (hk : k ≤ 2046) (hv : 99 / 100 ≤ val w) : 2085166627472539648 ≤ w ∧ w < 9218868437227405312 := by
  have hf := h.fin hk
  have h1 := h.1
  have hv2 : val 2085166627472539648 < 99 / 100 := by
    have := val_le_of (w := 2085166627472539648) 1 2 (by decide) (by decide) (by decide +kernel)
    grind
  have hlt : val 2085166627472539648 < val w := by grind
  have hk2 := val_lt hlt
  have c : key 2085166627472539648 = 2085166627472539648 := rfl
  rw [c] at hk2
  unfold key at hk2
  split at hk2 <;> omega
end Go.Proofs.YtmiamfnnccjmeacDoor.FB
