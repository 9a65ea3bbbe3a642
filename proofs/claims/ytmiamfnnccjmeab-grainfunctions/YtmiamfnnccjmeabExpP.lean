/-
  The power's numbers, step by step, and that each step has an answer. No Go text is named here.
-/
import Derived.Test.YtmiamfnnccjmeabLnP
namespace Go.Proofs.Ytmiamfnnccjmeab.FB
open Ieee

theorem read_negw {a : Nat} (ha : a < 9218868437227405312) : ∃ m e, double.read (9223372036854775808 + a) = .number true m e ∧ double.read a = .number false m e := by
  obtain ⟨m, e, hr, _⟩ := read_pos ha
  refine ⟨m, e, ?_, hr⟩
  rw [read_eq] at hr ⊢
  have h1 : (9223372036854775808 + a) % 9223372036854775808 = a := by omega
  have h2 : ((9223372036854775808 + a) / 9223372036854775808 % 2 == 1) = true := by
    rw [show (9223372036854775808 + a) / 9223372036854775808 = 1 by omega]; rfl
  have h3 : a % 9223372036854775808 = a := by omega
  rw [h1, h2]
  rw [h3] at hr
  by_cases c1 : a < 4503599627370496
  · rw [if_pos c1] at hr ⊢; injection hr with _ h5 h6; rw [h5, h6]
  · rw [if_neg c1] at hr ⊢
    rw [if_pos ha] at hr ⊢; injection hr with _ h5 h6; rw [h5, h6]
theorem order_neg {a b : Nat} (ha : a < 9218868437227405312) (hb : b < 9218868437227405312) : double.order (9223372036854775808 + a) (9223372036854775808 + b) = some (compare b a) := by
  obtain ⟨m, i, r1, r2⟩ := read_negw ha
  obtain ⟨n, j, s1, s2⟩ := read_negw hb
  have h := order_pos hb ha
  unfold Format.order at h ⊢
  rw [s2, r2] at h
  rw [r1, s1]
  simp only [Datum.order, signed_false, signed_true, Option.some.injEq] at h ⊢
  rw [Int.min_comm] at h
  rw [← h]
  generalize n * 2 ^ (j - min i j).toNat = q
  generalize m * 2 ^ (i - min i j).toNat = p
  rcases Nat.lt_trichotomy p q with hh | hh | hh
  · rw [Int.compare_eq_gt.2 (show -(q : Int) < -(p : Int) by omega), Int.compare_eq_gt.2 (show (p : Int) < (q : Int) by omega)]
  · rw [hh, Int.compare_eq_eq.2 rfl, Int.compare_eq_eq.2 rfl]
  · rw [Int.compare_eq_lt.2 (show -(p : Int) < -(q : Int) by omega), Int.compare_eq_lt.2 (show (q : Int) < (p : Int) by omega)]

theorem fin_word {x : Nat} (hn : Num x) : x % 9223372036854775808 < 9218868437227405312 := by
  obtain ⟨s, m, e, hr⟩ := hn
  rw [read_eq] at hr
  generalize x % 9223372036854775808 = r at hr ⊢
  by_cases c1 : r < 4503599627370496
  · omega
  · rw [if_neg c1] at hr
    by_cases c2 : r < 9218868437227405312
    · exact c2
    · rw [if_neg c2] at hr
      by_cases c3 : r = 9218868437227405312
      · rw [if_pos c3] at hr; cases hr
      · rw [if_neg c3] at hr; cases hr

/-- Neither above 710 nor below -746: of modest size. -/
theorem exp_dom {x : Nat} (hx : x < 18446744073709551616) (hn : Num x) (h1 : double.order x 4649456441864749056 ≠ some .gt) (h2 : double.order x 13873145138068324352 ≠ some .lt) : Le 1033 x := by
  have hf := fin_word hn
  refine ⟨hx, ?_⟩
  by_cases c : x < 9223372036854775808
  · rw [Nat.mod_eq_of_lt c] at hf ⊢
    rw [order_pos hf (by decide)] at h1
    have : ¬ 4649456441864749056 < x := fun h => h1 (by rw [Nat.compare_eq_gt.2 h])
    omega
  · obtain ⟨a, rfl⟩ : ∃ a, x = 9223372036854775808 + a := ⟨x - 9223372036854775808, by omega⟩
    have e : (9223372036854775808 + a) % 9223372036854775808 = a := by omega
    rw [e] at hf ⊢
    rw [show (13873145138068324352 : Nat) = 9223372036854775808 + 4649773101213548544 by decide, order_neg hf (by decide)] at h2
    have : ¬ 4649773101213548544 < a := fun h => h2 (by rw [Nat.compare_eq_lt.2 h])
    omega

def l2e : Nat := 4609176140021203710
def halfF : Nat := 4602678819172646912
theorem l2e_le : Le 1024 l2e := ⟨by decide +kernel, by decide +kernel⟩
theorem halfF_le : Le 1022 halfF := ⟨by decide +kernel, by decide +kernel⟩
def exp15 : List Nat := [4607182418800017408, 4607182418800017408, 4602678819172646912, 4595172819793696085, 4586165620538955093, 4575957461383581969, 4564047942368979991, 4551452160554016794, 4537941361671905306, 4523617214285662004, 4508805057796939612, 4493156764026750180, 4477122120089393304, 4460272573143870729, 4443145680587881629]
theorem exp15_le : ∀ c, c ∈ exp15 → Le 1023 c := by
  have h1 : (exp15.all fun c => (decide (c < 18446744073709551616) && decide (c % 9223372036854775808 ≤ 1023 * 4503599627370496))) = true := by decide +kernel
  intro c hc; have := List.all_eq_true.1 h1 c hc; simp only [Bool.and_eq_true, decide_eq_true_eq] at this; exact this

/-- Made whole: down; towards zero. -/
theorem cut_bd (way : Toward) (neg : Bool) (n drop : Nat) : way.cut neg n drop ≤ n / 2 ^ drop + 1 := by
  unfold Toward.cut
  simp only
  have hb : ∀ b : Bool, b.toNat ≤ 1 := by intro b; cases b <;> decide
  by_cases hd : drop ≤ n.log2 + 2
  · rw [Nat.min_eq_left hd, Nat.one_shiftLeft]
    exact Nat.add_le_add_left (hb _) _
  · rw [Nat.min_eq_right (by omega), Nat.one_shiftLeft]
    have hn : n < 2 ^ (n.log2 + 2) := Nat.lt_of_lt_of_le Nat.lt_log2_self (Nat.pow_le_pow_right (by decide) (by omega))
    rw [Nat.div_eq_of_lt hn]
    refine Nat.le_trans (Nat.add_le_add_left (hb _) _) ?_
    exact Nat.add_le_add_right (Nat.zero_le _) 1
/-- The size of what is made whole. -/
theorem whole_bd {k x : Nat} (way : Toward) (h : Le k x) (hk1 : 1023 ≤ k) (hk : k ≤ 1075) : ∃ s m, (double.read x).integral way = .number s m 0 ∧ m < 2 ^ (k - 1021) := by
  obtain ⟨s, m, e, hr, hm, he, _⟩ := read_le h (by omega) (by omega)
  refine ⟨s, way.cut s (m <<< e.toNat) (-e).toNat, by rw [hr]; rfl, ?_⟩
  have hc := cut_bd way s (m <<< e.toNat) (-e).toNat
  rw [Nat.shiftLeft_eq] at hc ⊢
  have hq : m * 2 ^ e.toNat / 2 ^ (-e).toNat < 2 ^ (k - 1022) := by
    refine Nat.div_lt_of_lt_mul ?_
    rw [← Nat.pow_add]
    by_cases c : 0 ≤ e
    · have e1 : (-e).toNat = 0 := by omega
      rw [e1, Nat.zero_add]
      have : m * 2 ^ e.toNat < 2 ^ 53 * 2 ^ e.toNat := Nat.mul_lt_mul_of_pos_right hm (Nat.two_pow_pos _)
      rw [← Nat.pow_add] at this
      exact Nat.lt_of_lt_of_le this (Nat.pow_le_pow_right (by decide) (by omega))
    · have e1 : e.toNat = 0 := by omega
      rw [e1, Nat.pow_zero, Nat.mul_one]
      exact Nat.lt_of_lt_of_le hm (Nat.pow_le_pow_right (by decide) (by omega))
  have hp : 2 ^ (k - 1022) < 2 ^ (k - 1021) := Nat.pow_lt_pow_right (by decide) (by omega)
  exact Nat.lt_of_le_of_lt (Nat.le_trans hc hq) hp

def eY1 (x : Nat) : Nat := FM x l2e
def eY2 (x : Nat) : Nat := FA (eY1 x) halfF
/-- The floor's word. -/
def eK (x : Nat) : Nat := double.write ((double.read (eY2 x)).integral .down)
def eA (x : Nat) : Nat := FM (eK x) lnG
def eB (x : Nat) : Nat := FM (eK x) lnS
def eR1 (x : Nat) : Nat := FS x (eA x)
def eR (x : Nat) : Nat := FS (eR1 x) (eB x)
def eP (x : Nat) : Nat := hor exp15 (eR x)
def eN (x : Nat) : Int := (floatToIntVal .f64 (eK x) .i64).getD 0

structure ExpOk (x : Nat) : Prop where
  y1 : double.mul x l2e = some (eY1 x)
  y2 : double.add (eY1 x) halfF = some (eY2 x)
  y2n : Num (eY2 x)
  a : double.mul (eK x) lnG = some (eA x)
  b : double.mul (eK x) lnS = some (eB x)
  r1 : double.sub x (eA x) = some (eR1 x)
  r : double.sub (eR1 x) (eB x) = some (eR x)
  rn : Num (eR x)
  p : Ok exp15 (eR x)
  pn : Num (eP x)
  plt : eP x < 18446744073709551616
  n : floatToIntVal .f64 (eK x) .i64 = some (eN x)
  nb : -2000000 ≤ eN x ∧ eN x ≤ 2000000

theorem exp_ok (x : Nat) (hx : Le 1033 x) : ExpOk x := by
  have h1 : Le 1036 (eY1 x) := FM_le hx l2e_le (by decide) (by decide) (by decide) (by decide) _ (by decide) (by decide) (by decide)
  have h2 : Le 1038 (eY2 x) := FA_le h1 (halfF_le.mono (by decide)) (by decide) (by decide)
  obtain ⟨s, m, hi, hm⟩ := whole_bd .down h2 (by decide) (by decide)
  have hK : Le 1040 (eK x) := by
    unfold eK
    rw [hi]
    show Le 1040 (double.nearest s m 0)
    rcases nearest_le s m 0 17 1040 hm (by decide) (by decide) with h | h
    · exact h
    · omega
  have hA : Le 1042 (eA x) := FM_le hK lnG_le (by decide) (by decide) (by decide) (by decide) _ (by decide) (by decide) (by decide)
  have hB : Le 1044 (eB x) := FM_le hK lnS_le (by decide) (by decide) (by decide) (by decide) _ (by decide) (by decide) (by decide)
  have hR1 : Le 1044 (eR1 x) := FS_le (hx.mono (by decide)) hA (by decide) (by decide)
  have hR : Le 1046 (eR x) := FS_le hR1 hB (by decide) (by decide)
  have hP : Le 1428 (eP x) := by
    have := hor_le 1046 (eR x) 1023 27 hR (by decide) (by decide) (by decide) (by decide) (by decide) exp15 exp15_le (by decide)
    exact this
  obtain ⟨s2, m2, hi2, hm2⟩ := whole_bd .zero hK (by decide) (by decide)
  have h19 : (2 : Nat) ^ (1040 - 1021) = 524288 := by decide
  rw [h19] at hm2
  have hsig : signed s2 m2 0 = if s2 = true then -(m2 : Int) else (m2 : Int) := by
    cases s2
    · rw [signed_false]; simp
    · rw [signed_true]; simp
  have hN : floatToIntVal .f64 (eK x) .i64 = some (signed s2 m2 0) := by
    unfold floatToIntVal Datum.toInt
    show (match (match (double.read (eK x)).integral .zero with | .number s m _ => some (signed s m 0) | _ => none) with | some n => if IntKind.i64.min ≤ n ∧ n ≤ IntKind.i64.max then some n else none | none => none) = _
    rw [hi2]
    simp only
    have hmin : IntKind.i64.min = -9223372036854775808 := by decide
    have hmax : IntKind.i64.max = 9223372036854775807 := by decide
    rw [hmin, hmax, hsig]
    rw [if_pos]
    split <;> omega
  have hE : eN x = signed s2 m2 0 := by unfold eN; rw [hN]; rfl
  have nx := hx.num (by decide) (by decide)
  refine ⟨mul_num nx (l2e_le.num (by decide) (by decide)), add_num (h1.num (by decide) (by decide)) (halfF_le.num (by decide) (by decide)), h2.num (by decide) (by decide),
    mul_num (hK.num (by decide) (by decide)) (lnG_le.num (by decide) (by decide)), mul_num (hK.num (by decide) (by decide)) (lnS_le.num (by decide) (by decide)),
    sub_num nx (hA.num (by decide) (by decide)), sub_num (hR1.num (by decide) (by decide)) (hB.num (by decide) (by decide)), hR.num (by decide) (by decide),
    ok_of 1046 (eR x) 1023 27 hR (by decide) (by decide) (by decide) (by decide) (by decide) exp15 exp15_le (by decide), hP.num (by decide) (by decide), hP.1, by rw [hE]; exact hN, ?_⟩
  rw [hE, hsig]
  split <;> omega
end Go.Proofs.Ytmiamfnnccjmeab.FB
