/-
  Whole numbers from 0 on by digits to the base of a million, the low ones first. No Go text is named here.; Whole numbers of 128 bits in two words; fractions in their lowest terms. No Go text is named here.; Fractions in their lowest terms. No Go text is named here.; Whole numbers of any size in memory; mercatorref1.trimmed.; Rows of digits that a call makes; mercatorref1.BigOf.; mercatorref1.BigAdd.; mercatorref1.BigSub.; mercatorref1.BigCmp.; mercatorref1.BigPart, mercatorref1.BigGcd.; mercatorref1.BigGcd, mercatorref1.BigInt.; mercatorref1.BigMul.
-/
import Derived.Test.YtpdiefmmenfpaaaDoorProg
import Derived.Test.YtpdiefmmenfpaaaDoorQHd
import Derived.WalkKit
import Derived.WalkLawsBesides
import Derived.WalkSmall
import Derived.Outline
import Derived.Deep.QuietTactic
import Derived.BigQuiet
import Derived.Deep.CutRange
import Derived.Deep.LoopGhost
namespace Go.Proofs.YtpdiefmmenfpaaaDoor.BG

/-- What a row of digits stands for. -/
def dv : List Nat → Nat
  | [] => 0
  | d :: l => d + 1000000 * dv l
/-- The digits of a number, without noughts at their end. -/
def dn (n : Nat) : List Nat := if _h : n = 0 then [] else (n % 1000000) :: dn (n / 1000000)
termination_by n
decreasing_by omega
theorem dn_zero : dn 0 = [] := by unfold dn; simp
theorem dn_pos {n : Nat} (h : n ≠ 0) : dn n = (n % 1000000) :: dn (n / 1000000) := by rw [dn]; simp [h]
theorem dv_dn (n : Nat) : dv (dn n) = n := by
  induction n using Nat.strongRecOn with
  | _ n ih =>
    by_cases h : n = 0
    · subst h; rw [dn_zero]; rfl
    · rw [dn_pos h]
      show n % 1000000 + 1000000 * dv (dn (n / 1000000)) = n
      rw [ih (n / 1000000) (by omega)]
      omega
/-- Digits below a million. -/
def Dg (l : List Nat) : Prop := ∀ d ∈ l, d < 1000000
theorem dn_dg (n : Nat) : Dg (dn n) := by
  induction n using Nat.strongRecOn with
  | _ n ih =>
    by_cases h : n = 0
    · subst h; rw [dn_zero]; intro d hd; cases hd
    · rw [dn_pos h]
      intro d hd
      rcases List.mem_cons.1 hd with rfl | hd
      · exact Nat.mod_lt _ (by decide)
      · exact ih (n / 1000000) (by omega) d hd
theorem dv_append (l m : List Nat) : dv (l ++ m) = dv l + 1000000 ^ l.length * dv m := by
  induction l with
  | nil => simp [dv]
  | cons d l ih =>
    simp only [List.cons_append, dv, ih, List.length_cons, Nat.pow_succ]
    rw [Nat.mul_add, Nat.add_assoc, ← Nat.mul_assoc, Nat.mul_comm 1000000 (1000000 ^ l.length)]
theorem dv_snoc (l : List Nat) (d : Nat) : dv (l ++ [d]) = dv l + 1000000 ^ l.length * d := by
  rw [dv_append]; simp [dv]
theorem dv_lt {l : List Nat} (h : Dg l) : dv l < 1000000 ^ l.length := by
  induction l with
  | nil => simp [dv]
  | cons d l ih =>
    have h1 : d < 1000000 := h d (List.mem_cons_self ..)
    have h2 := ih (fun x hx => h x (List.mem_cons_of_mem _ hx))
    simp only [dv, List.length_cons, Nat.pow_succ]
    omega
theorem Dg.snoc {l : List Nat} {d : Nat} (h : Dg l) (hd : d < 1000000) : Dg (l ++ [d]) := by
  intro x hx
  rcases List.mem_append.1 hx with hx | hx
  · exact h x hx
  · rw [List.mem_singleton.1 hx]; exact hd
theorem Dg.take {l : List Nat} (h : Dg l) (k : Nat) : Dg (l.take k) := fun x hx => h x (List.mem_of_mem_take hx)
theorem Dg.get {l : List Nat} (h : Dg l) {i : Nat} (hi : i < l.length) : l[i] < 1000000 := h _ (List.getElem_mem hi)
/-- A row whose last digit is not a nought is its number's row. -/
theorem dn_dv {l : List Nat} (h : Dg l) (hl : l = [] ∨ ∃ m d, l = m ++ [d] ∧ d ≠ 0) : dn (dv l) = l := by
  induction l with
  | nil => exact dn_zero
  | cons d l ih =>
    have h1 : d < 1000000 := h d (List.mem_cons_self ..)
    have h2 : Dg l := fun x hx => h x (List.mem_cons_of_mem _ hx)
    have hl' : l = [] ∨ ∃ m e, l = m ++ [e] ∧ e ≠ 0 := by
      rcases hl with hl | ⟨m, e, hl, he⟩
      · cases hl
      · cases m with
        | nil => simp at hl; exact .inl hl.2
        | cons x m => simp at hl; exact .inr ⟨m, e, hl.2, he⟩
    have h0 : dv (d :: l) ≠ 0 := by
      rcases hl with hl | ⟨m, e, hl, he⟩
      · cases hl
      · rw [hl, dv_snoc]
        have : 0 < 1000000 ^ m.length * e := Nat.mul_pos (Nat.pow_pos (by decide)) (Nat.pos_of_ne_zero he)
        omega
    rw [dn_pos h0]
    have e1 : dv (d :: l) % 1000000 = d := by simp only [dv]; omega
    have e2 : dv (d :: l) / 1000000 = dv l := by simp only [dv]; omega
    rw [e1, e2, ih h2 hl']
/-- Noughts at the end stand for nothing. -/
theorem dv_zeros (l : List Nat) (k : Nat) (h : ∀ i, (hi : i < l.length) → k ≤ i → l[i] = 0) : dv (l.take k) = dv l := by
  induction l generalizing k with
  | nil => simp
  | cons d l ih =>
    cases k with
    | zero =>
      have hz : ∀ (m : List Nat), (∀ i, (hi : i < m.length) → m[i] = 0) → dv m = 0 := by
        intro m
        induction m with
        | nil => intro _; rfl
        | cons e m ihm =>
          intro hm
          have he := hm 0 (by simp)
          simp at he
          have := ihm (fun i hi => by have := hm (i + 1) (by simpa using hi); simpa using this)
          simp [dv, he, this]
      rw [List.take_zero, hz (d :: l) (fun i hi => h i hi (Nat.zero_le _))]
      rfl
    | succ k =>
      rw [List.take_succ_cons]
      simp only [dv]
      rw [ih k (fun i hi hk => by have := h (i + 1) (by simpa using hi) (by omega); simpa using this)]
/-- Cut off where only noughts follow and the last digit is none: the number's row. -/
theorem take_dn {l : List Nat} (h : Dg l) {k : Nat} (hk : k ≤ l.length) (hz : ∀ i, (hi : i < l.length) → k ≤ i → l[i] = 0) (hl : k = 0 ∨ ∃ hk' : k - 1 < l.length, l[k - 1] ≠ 0) : l.take k = dn (dv l) := by
  rw [← dv_zeros l k hz]
  refine (dn_dv (h.take k) ?_).symm
  rcases hl with rfl | ⟨hk', hd⟩
  · exact .inl (by simp)
  · rcases Nat.eq_zero_or_pos k with rfl | hp
    · exact .inl (by simp)
    · right
      refine ⟨l.take (k - 1), l[k - 1], ?_, hd⟩
      have e : k = (k - 1) + 1 := by omega
      conv => lhs; rw [e, List.take_succ_eq_append_getElem hk']
/-- The number's row is the beginning of any of its rows. -/
theorem dn_take {l : List Nat} (h : Dg l) : ∃ k, k ≤ l.length ∧ dn (dv l) = l.take k := by
  suffices H : ∀ k, k ≤ l.length → (∀ i, (hi : i < l.length) → k ≤ i → l[i] = 0) → ∃ k, k ≤ l.length ∧ dn (dv l) = l.take k from H l.length (Nat.le_refl _) (fun i hi hk => by omega)
  intro k
  induction k with
  | zero => intro hk hz; exact ⟨0, hk, (take_dn h hk hz (.inl rfl)).symm⟩
  | succ k ih =>
    intro hk hz
    by_cases c : l[k] = 0
    · refine ih (by omega) (fun i hi hki => ?_)
      rcases Nat.lt_or_eq_of_le hki with d | d
      · exact hz i hi d
      · subst d; exact c
    · exact ⟨k + 1, hk, (take_dn h hk hz (.inr ⟨by simp; omega, by simpa using c⟩)).symm⟩
theorem dn_len_le {n k : Nat} (h : n < 1000000 ^ k) : (dn n).length ≤ k := by
  induction k generalizing n with
  | zero => have : n = 0 := by simpa using h
            subst this; rw [dn_zero]; simp
  | succ k ih =>
    by_cases h0 : n = 0
    · subst h0; rw [dn_zero]; simp
    · rw [dn_pos h0, List.length_cons]
      have : n / 1000000 < 1000000 ^ k := by rw [Nat.pow_succ] at h; exact Nat.div_lt_of_lt_mul (by rw [Nat.mul_comm]; exact h)
      have := ih this
      omega
theorem dn_len_lt {n : Nat} (h : n ≠ 0) : 1000000 ^ ((dn n).length - 1) ≤ n := by
  induction n using Nat.strongRecOn with
  | _ n ih =>
    rw [dn_pos h, List.length_cons, Nat.add_sub_cancel]
    by_cases c : n / 1000000 = 0
    · rw [c, dn_zero]; simp; omega
    · have := ih (n / 1000000) (by omega) c
      have hl : (dn (n / 1000000)).length = ((dn (n / 1000000)).length - 1) + 1 := by
        rw [dn_pos c, List.length_cons]; omega
      rw [hl, Nat.pow_succ]
      have : 1000000 ^ ((dn (n / 1000000)).length - 1) * 1000000 ≤ n / 1000000 * 1000000 := Nat.mul_le_mul_right _ this
      omega
theorem dn_len_mono {m n : Nat} (h : m ≤ n) : (dn m).length ≤ (dn n).length := by
  refine dn_len_le ?_
  have h1 := dv_lt (dn_dg n)
  rw [dv_dn] at h1
  omega
theorem dn_empty {n : Nat} : (dn n).length = 0 ↔ n = 0 := by
  constructor
  · intro h
    by_cases c : n = 0
    · exact c
    · rw [dn_pos c] at h; simp at h
  · intro h; subst h; rw [dn_zero]; rfl
/-- A digit of two rows that are alike above it decides. -/
theorem dv_cmp {l m : List Nat} (hl : Dg l) (_hm : Dg m) {i : Nat} (h1 : i < l.length) (h2 : i < m.length) (he : l.drop (i + 1) = m.drop (i + 1)) (h : l[i] < m[i]) : dv l < dv m := by
  have split : ∀ (r : List Nat) (hi : i < r.length), dv r = dv (r.take i) + 1000000 ^ i * (r[i] + 1000000 * dv (r.drop (i + 1))) := by
    intro r hi
    have e : r = r.take i ++ (r[i] :: r.drop (i + 1)) := by rw [← List.drop_eq_getElem_cons hi, List.take_append_drop]
    have := congrArg dv e
    rw [dv_append] at this
    rw [this, List.length_take, Nat.min_eq_left (Nat.le_of_lt hi)]
    rfl
  rw [split l h1, split m h2, he]
  have b1 : dv (l.take i) < 1000000 ^ i := by have := dv_lt (hl.take i); rwa [List.length_take, Nat.min_eq_left (Nat.le_of_lt h1)] at this
  generalize dv (m.drop (i + 1)) = D
  generalize dv (m.take i) = T
  have : 1000000 ^ i * (l[i] + 1000000 * D) + 1000000 ^ i ≤ 1000000 ^ i * (m[i] + 1000000 * D) := by
    rw [← Nat.mul_succ]; exact Nat.mul_le_mul_left _ (by omega)
  omega
end Go.Proofs.YtpdiefmmenfpaaaDoor.BG
namespace Go.Proofs.YtpdiefmmenfpaaaDoor

/-- The high word and the low word of a number, below 0 as its two's complement. -/
def hi2 (z : Int) : Int := z / 18446744073709551616 % 18446744073709551616
def lo2 (z : Int) : Int := z % 18446744073709551616
/-- The borrow. -/
def bor (x y : Int) : Int := if x < y then 1 else 0
theorem bor_0 (x y : Int) : 0 ≤ bor x y := by unfold bor; split <;> decide
theorem bor_1 (x y : Int) : bor x y ≤ 1 := by unfold bor; split <;> decide
theorem hi2_0 (z : Int) : 0 ≤ hi2 z := by unfold hi2; omega
theorem hi2_1 (z : Int) : hi2 z < 18446744073709551616 := by unfold hi2; omega
theorem lo2_0 (z : Int) : 0 ≤ lo2 z := by unfold lo2; omega
theorem lo2_1 (z : Int) : lo2 z < 18446744073709551616 := by unfold lo2; omega
theorem lo_neg (z : Int) : (0 - lo2 z) % 18446744073709551616 = lo2 (-z) := by unfold lo2; omega
theorem hi_neg (z : Int) : (0 - hi2 z - bor 0 (lo2 z)) % 18446744073709551616 = hi2 (-z) := by unfold hi2 lo2 bor; split <;> omega
theorem lo_add (x y : Int) : (lo2 x + lo2 y) % 18446744073709551616 = lo2 (x + y) := by unfold lo2; omega
theorem hi_add (x y : Int) : (hi2 x + hi2 y + (lo2 x + lo2 y) / 18446744073709551616) % 18446744073709551616 = hi2 (x + y) := by unfold hi2 lo2; omega
theorem hi_nat (n : Nat) (h : n < 340282366920938463463374607431768211456) : ((n / 18446744073709551616 : Nat) : Int) = hi2 (n : Int) := by unfold hi2; omega
theorem lo_nat (n : Nat) : ((n % 18446744073709551616 : Nat) : Int) = lo2 (n : Int) := by unfold lo2; omega
theorem mul_128 {a b : Nat} (ha : a < 18446744073709551616) (hb : b < 18446744073709551616) : a * b < 340282366920938463463374607431768211456 := by
  have h := Nat.mul_le_mul (show a ≤ 18446744073709551615 by omega) (show b ≤ 18446744073709551615 by omega)
  omega
/-- -1, 0, 1. -/
def sg (z : Int) : Int := if z < 0 then -1 else if z = 0 then 0 else 1
/-- The number is in reach of a sign. -/
def Wid (z : Int) : Prop := -170141183460469231731687303715884105728 ≤ z ∧ z < 170141183460469231731687303715884105728
theorem sign_neg {z : Int} (h : Wid z) : hi2 z / 9223372036854775808 = 1 ↔ z < 0 := by unfold Wid at h; unfold hi2; omega
theorem sign_zero {z : Int} (h : Wid z) : hi2 z = 0 ∧ lo2 z = 0 ↔ z = 0 := by unfold Wid at h; unfold hi2 lo2; omega
theorem wid_add {x y : Int} (hx : x.natAbs ≤ 21267647932558653966460912964485513216) (hy : y.natAbs ≤ 21267647932558653966460912964485513216) : Wid (x + y) := by unfold Wid; omega
theorem prod_62 {x y : Int} (hx : x.natAbs ≤ 4611686018427387904) (hy : y.natAbs ≤ 4611686018427387904) : (x * y).natAbs ≤ 21267647932558653966460912964485513216 := by
  rw [Int.natAbs_mul]
  exact Nat.le_trans (Nat.mul_le_mul hx hy) (by decide +kernel)
end Go.Proofs.YtpdiefmmenfpaaaDoor
namespace Go.Proofs.YtpdiefmmenfpaaaDoor

/-- A fraction's two parts in their lowest terms, without a sign. -/
def rn (x y : Nat) : Nat := x / Nat.gcd x y
def rd (x y : Nat) : Nat := y / Nat.gcd x y
theorem rn_le (x y : Nat) : rn x y ≤ x := Nat.div_le_self _ _
theorem rd_le (x y : Nat) : rd x y ≤ y := Nat.div_le_self _ _
theorem cop1 {x y : Int} {a b : Nat} (h : Nat.Coprime a b) (hx : Nat.gcd x.natAbs a = 1) : Nat.Coprime (x * b + y * a).natAbs a := by
  have k1 := Nat.gcd_dvd_left (x * b + y * a).natAbs a
  have k2 := Nat.gcd_dvd_right (x * b + y * a).natAbs a
  unfold Nat.Coprime
  generalize Nat.gcd (x * b + y * a).natAbs a = k at *
  have k3 : (k : Int) ∣ x * b + y * a := Int.ofNat_dvd_left.2 k1
  have k4 : (k : Int) ∣ y * a := Int.dvd_mul_of_dvd_right (Int.natCast_dvd_natCast.2 k2)
  have k5 : (k : Int) ∣ x * b := (Int.dvd_add_left k4).1 k3
  have k6 : k ∣ x.natAbs * b := by have := Int.ofNat_dvd_left.1 k5; rw [Int.natAbs_mul] at this; exact this
  have k7 : k ∣ x.natAbs := (Nat.Coprime.coprime_dvd_left k2 h).dvd_of_dvd_mul_right k6
  have k8 : k ∣ 1 := by rw [← hx]; exact Nat.dvd_gcd k7 k2
  exact Nat.dvd_one.1 k8
/-- What remains of a sum. -/
def suS (an bn : Int) (ad bd : Nat) : Int := an * ((bd / Nat.gcd ad bd : Nat) : Int) + bn * ((ad / Nat.gcd ad bd : Nat) : Int)
def suD (an bn : Int) (ad bd : Nat) : Nat := Nat.gcd (Nat.gcd ad bd) ((suS an bn ad bd).natAbs % Nat.gcd ad bd)
theorem plus_red {an bn : Int} {ad bd : Nat} (ha : Nat.gcd an.natAbs ad = 1) (hb : Nat.gcd bn.natAbs bd = 1) (h1 : 0 < ad) (_h2 : 0 < bd) :
    rn (an * bd + bn * ad).natAbs (ad * bd) = (suS an bn ad bd).natAbs / suD an bn ad bd ∧ rd (an * bd + bn * ad).natAbs (ad * bd) = ad / Nat.gcd ad bd * (bd / suD an bn ad bd) ∧ 0 < Nat.gcd ad bd ∧ 0 < suD an bn ad bd ∧ an * bd + bn * ad = (Nat.gcd ad bd : Int) * suS an bn ad bd := by
  have hc : 0 < Nat.gcd ad bd := Nat.gcd_pos_of_pos_left _ h1
  have hcop := Nat.coprime_div_gcd_div_gcd hc
  have ea : ad = Nat.gcd ad bd * (ad / Nat.gcd ad bd) := (Nat.mul_div_cancel' (Nat.gcd_dvd_left _ _)).symm
  have eb : bd = Nat.gcd ad bd * (bd / Nat.gcd ad bd) := (Nat.mul_div_cancel' (Nat.gcd_dvd_right _ _)).symm
  have hda : ad / Nat.gcd ad bd ∣ ad := Nat.div_dvd_of_dvd (Nat.gcd_dvd_left _ _)
  have hdb : bd / Nat.gcd ad bd ∣ bd := Nat.div_dvd_of_dvd (Nat.gcd_dvd_right _ _)
  have ca : Nat.gcd an.natAbs (ad / Nat.gcd ad bd) = 1 := Nat.Coprime.coprime_dvd_right hda ha
  have cb : Nat.gcd bn.natAbs (bd / Nat.gcd ad bd) = 1 := Nat.Coprime.coprime_dvd_right hdb hb
  unfold suD suS
  generalize ad / Nat.gcd ad bd = a at *
  generalize bd / Nat.gcd ad bd = b at *
  have sa : Nat.Coprime (an * b + bn * a).natAbs a := cop1 hcop ca
  have sb : Nat.Coprime (an * b + bn * a).natAbs b := by have := cop1 (y := an) hcop.symm cb; rw [Int.add_comm] at this; exact this
  generalize Nat.gcd ad bd = c at *
  have en : an * bd + bn * ad = (c : Int) * (an * b + bn * a) := by
    rw [ea, eb]; push_cast; rw [Int.mul_add, Int.mul_left_comm, Int.mul_left_comm bn]
  have en' : (an * bd + bn * ad).natAbs = c * (an * b + bn * a).natAbs := by rw [en, Int.natAbs_mul]; rfl
  have ed : ad * bd = c * (c * (a * b)) := by rw [ea, eb, Nat.mul_assoc, Nat.mul_left_comm a]
  generalize hS : (an * b + bn * a).natAbs = S at *
  have eg : Nat.gcd (c * S) (c * (c * (a * b))) = c * Nat.gcd c (S % c) := by
    rw [Nat.gcd_mul_left, Nat.Coprime.gcd_mul_right_cancel_right c (Nat.Coprime.mul_left sa.symm sb.symm), Nat.gcd_comm S c, Nat.gcd_rec c S, Nat.gcd_comm]
  have hd : 0 < Nat.gcd c (S % c) := Nat.gcd_pos_of_pos_left _ hc
  obtain ⟨e, he⟩ := Nat.gcd_dvd_left c (S % c)
  refine ⟨?_, ?_, hc, hd, en⟩
  · unfold rn
    rw [en', ed, eg, Nat.mul_div_mul_left _ _ hc]
  · unfold rd
    rw [en', ed, eg, Nat.mul_div_mul_left _ _ hc, eb]
    generalize Nat.gcd c (S % c) = d at *
    subst he
    rw [Nat.mul_assoc, Nat.mul_div_cancel_left _ hd, Nat.mul_assoc d e b, Nat.mul_div_cancel_left _ hd, Nat.mul_left_comm]
theorem times_red {x y a b : Nat} (ha : Nat.gcd x a = 1) (hb : Nat.gcd y b = 1) (h1 : 0 < a) (h2 : 0 < b) :
    rn (x * y) (a * b) = x / Nat.gcd x b * (y / Nat.gcd y a) ∧ rd (x * y) (a * b) = a / Nat.gcd y a * (b / Nat.gcd x b) ∧ 0 < Nat.gcd x b ∧ 0 < Nat.gcd y a := by
  have hc : 0 < Nat.gcd x b := Nat.gcd_pos_of_pos_right _ h2
  have hd : 0 < Nat.gcd y a := Nat.gcd_pos_of_pos_right _ h1
  have hcop := Nat.coprime_div_gcd_div_gcd hc
  have hdop := Nat.coprime_div_gcd_div_gcd hd
  have ex : x = Nat.gcd x b * (x / Nat.gcd x b) := (Nat.mul_div_cancel' (Nat.gcd_dvd_left _ _)).symm
  have eb : b = Nat.gcd x b * (b / Nat.gcd x b) := (Nat.mul_div_cancel' (Nat.gcd_dvd_right _ _)).symm
  have ey : y = Nat.gcd y a * (y / Nat.gcd y a) := (Nat.mul_div_cancel' (Nat.gcd_dvd_left _ _)).symm
  have ea : a = Nat.gcd y a * (a / Nat.gcd y a) := (Nat.mul_div_cancel' (Nat.gcd_dvd_right _ _)).symm
  have dx : x / Nat.gcd x b ∣ x := Nat.div_dvd_of_dvd (Nat.gcd_dvd_left _ _)
  have db : b / Nat.gcd x b ∣ b := Nat.div_dvd_of_dvd (Nat.gcd_dvd_right _ _)
  have dy : y / Nat.gcd y a ∣ y := Nat.div_dvd_of_dvd (Nat.gcd_dvd_left _ _)
  have da : a / Nat.gcd y a ∣ a := Nat.div_dvd_of_dvd (Nat.gcd_dvd_right _ _)
  have c1 : Nat.Coprime (x / Nat.gcd x b) (a / Nat.gcd y a) := Nat.Coprime.coprime_dvd_left dx (Nat.Coprime.coprime_dvd_right da ha)
  have c2 : Nat.Coprime (y / Nat.gcd y a) (b / Nat.gcd x b) := Nat.Coprime.coprime_dvd_left dy (Nat.Coprime.coprime_dvd_right db hb)
  generalize x / Nat.gcd x b = x' at *
  generalize b / Nat.gcd x b = b' at *
  generalize y / Nat.gcd y a = y' at *
  generalize a / Nat.gcd y a = a' at *
  generalize Nat.gcd x b = c at *
  generalize Nat.gcd y a = d at *
  have e1 : x * y = (c * d) * (x' * y') := by rw [ex, ey]; ac_rfl
  have e2 : a * b = (c * d) * (a' * b') := by rw [ea, eb]; ac_rfl
  have hcd : 0 < c * d := Nat.mul_pos hc hd
  have cp : Nat.gcd (x' * y') (a' * b') = 1 := Nat.Coprime.mul_left (Nat.Coprime.mul_right c1 hcop) (Nat.Coprime.mul_right hdop c2)
  refine ⟨?_, ?_, hc, hd⟩
  · unfold rn; rw [e1, e2, Nat.gcd_mul_left, cp, Nat.mul_one, Nat.mul_div_cancel_left _ hcd]
  · unfold rd; rw [e1, e2, Nat.gcd_mul_left, cp, Nat.mul_one, Nat.mul_div_cancel_left _ hcd]
end Go.Proofs.YtpdiefmmenfpaaaDoor
namespace Go.Proofs.YtpdiefmmenfpaaaDoor
open Go.RowKit BG

/-- The digits lie from the head of the block on. -/
def Row (w : World) (b : Nat) (l : List Nat) : Prop := (∀ i, (h : i < l.length) → w.cell? ⟨b, i, none⟩ = some (.int .i64 ((l[i] : Nat) : Int))) ∧ b < w.heap.size
theorem Row.below {W w' : World} {b : Nat} {l : List Nat} (h : Row W b l) (hB : Below W.heap.size W w') : Row w' b l :=
  ⟨fun i hi => (hB.cell (p := ⟨b, i, none⟩) h.2).trans (h.1 i hi), Nat.lt_of_lt_of_le h.2 hB.size⟩
theorem Row.take {w : World} {b : Nat} {l : List Nat} (h : Row w b l) (k : Nat) : Row w b (l.take k) :=
  ⟨fun i hi => by rw [h.1 i (by rw [List.length_take] at hi; omega)]; simp, h.2⟩
/-- A slice that holds the digits. -/
def Bg (w : World) (v : Value) (l : List Nat) : Prop := (v = .slice none 0 0 ∧ l = []) ∨ ∃ b cap, v = .slice (some ⟨b, 0, none⟩) l.length cap ∧ l.length ≤ cap ∧ cap ≤ maxLen ∧ Row w b l
theorem Bg.below {W w' : World} {v : Value} {l : List Nat} (h : Bg W v l) (hB : Below W.heap.size W w') : Bg w' v l := by
  rcases h with h | ⟨b, cap, h1, h2, h3, h4⟩
  · exact .inl h
  · exact .inr ⟨b, cap, h1, h2, h3, h4.below hB⟩

theorem trimmed_nil (w : World) : Calls Tryd.prog 90 #[.slice none 0 0] w fun e w' => e = .returned (.slice none 0 0) ∧ w' = w := by
  go_enter Tryd.func90, Tryd.ntmps90
  go_wp2
  refine wp_loop_rounds 1 ?_
  rw [rounds_succ]
  go_wp2
  go_ret
  exact ⟨rfl, rfl⟩
set_option maxHeartbeats 1000000 in
theorem trimmed_row (w : World) (b : Nat) (l : List Nat) (cap : Nat) (hd : Dg l) (hr : Row w b l) (hl : l.length ≤ cap) (hm : cap ≤ maxLen) : Calls Tryd.prog 90 #[.slice (some ⟨b, 0, none⟩) l.length cap] w fun e w' => e = .returned (.slice (some ⟨b, 0, none⟩) (dn (dv l)).length cap) ∧ w' = w := by
  have HD := hidb hd
  have hm' : cap ≤ 9223372036854775807 := by unfold maxLen at hm; omega
  clear hd hm
  go_enter Tryd.func90, Tryd.ntmps90
  go_wp2
  go_loop [3] (fun t => ∃ k : Nat, k ≤ l.length ∧ Hid (∀ i, (hi : i < l.length) → k ≤ i → l[i] = 0) ∧ t = .int .i64 k) (fun t => (intOf t).toNat)
  case atStart => exact ⟨l.length, Nat.le_refl _, fun i hi hk => by omega, rfl⟩
  case round =>
    obtain ⟨k, hk, HZ, rfl⟩ := hrel
    rcases Nat.eq_zero_or_pos k with rfl | hp
    · have HE : Hid ((dn (dv l)).length = 0) := by
        show (dn (dv l)).length = 0
        rw [← take_dn HD.out (Nat.zero_le _) HZ.out (.inl rfl)]; simp
      go_wp2
      go_ret
      exact ⟨by rw [HE.out]; rfl, rfl⟩
    · obtain ⟨j, rfl⟩ : ∃ j, k = j + 1 := ⟨k - 1, by omega⟩
      have hj : j < l.length := by omega
      have hc := hr.1 j hj
      have ej : ((j + 1 : Nat) : Int) - 1 = j := by omega
      have pj : (0 : Int) < ((j + 1 : Nat) : Int) := by omega
      by_cases h0 : l[j] = 0
      · have HZ2 : Hid (∀ i, (hi : i < l.length) → j ≤ i → l[i] = 0) := fun i hi hki => by
          rcases Nat.lt_or_eq_of_le hki with c | c
          · exact HZ.out i hi c
          · subst c; exact h0
        rw [h0] at hc
        go_wp2
        go_round
        case rel => exact ⟨j, by omega, HZ2, by go_num⟩
        case measure => simp [intOf]
      · have HE : Hid ((dn (dv l)).length = j + 1) := by
          show (dn (dv l)).length = j + 1
          rw [← take_dn HD.out hk HZ.out (.inr ⟨by simpa using hj, by simpa using h0⟩), List.length_take]; omega
        have hb0 : ((l[j] : Nat) : Int) ≠ 0 := by omega
        have hb1 : (((l[j] : Nat) : Int) == 0) = false := by simp [h0]
        generalize ((l[j] : Nat) : Int) = x at *
        go_wp2
        go_ret
        exact ⟨by rw [HE.out]; simp, rfl⟩
theorem trimmed_bg {w : World} {v : Value} {l : List Nat} (hd : Dg l) (h : Bg w v l) : Calls Tryd.prog 90 #[v] w fun e w' => ∃ v', e = .returned v' ∧ Bg w' v' (dn (dv l)) ∧ w' = w := by
  rcases h with ⟨rfl, rfl⟩ | ⟨b, cap, rfl, h2, h3, h4⟩
  · refine (trimmed_nil w).mono ?_
    rintro e w' ⟨rfl, rfl⟩
    exact ⟨_, rfl, .inl ⟨rfl, dn_zero⟩, rfl⟩
  · refine (trimmed_row w b l cap hd h4 h2 h3).mono ?_
    rintro e w' ⟨rfl, rfl⟩
    obtain ⟨k, hk, e⟩ := dn_take hd
    have hl : (dn (dv l)).length ≤ l.length := by rw [e, List.length_take]; omega
    exact ⟨_, rfl, .inr ⟨b, cap, rfl, by omega, h3, by rw [e]; exact h4.take k⟩, rfl⟩
end Go.Proofs.YtpdiefmmenfpaaaDoor
namespace Go.Proofs.YtpdiefmmenfpaaaDoor
open Go.RowKit BG

/-- The digits as values. -/
abbrev vs (l : List Nat) : List Value := l.map fun d => Value.int .i64 ((d : Nat) : Int)
theorem infoI : (Tryd.prog.info? 3).map (fun i => (i.zero, i.size, i.bytes)) = some (some (.int .i64 0), 1, 8) := by kernel_rfl
theorem undB : Tryd.prog.underlying 59 = some (.slice 3) := by kernel_rfl
theorem vs_snoc (l : List Nat) (d : Nat) : vs l ++ [Value.int .i64 ((d : Nat) : Int)] = vs (l ++ [d]) := by simp [vs]
/-- A row of the call's own, read. -/
theorem own_bg {w : World} {base : Nat} {v : Value} {n : Nat} {l : List Nat} (h : w.ownsRow base 3 1 v n (vs l)) : Bg w v l ∧ n = l.length ∧ (v = .slice none 0 0 ∨ ∃ b cap, v = .slice (some ⟨b, 0, none⟩) l.length cap ∧ base ≤ b) := by
  have hn : n = l.length := by have := h.1; simp [vs] at this; omega
  subst hn
  obtain ⟨h1, h | ⟨g, cap, cur, hv, hb, hg, hc, hm, hs, ht⟩⟩ := h
  · obtain ⟨rfl, h0⟩ := h
    exact ⟨.inl ⟨rfl, List.eq_nil_of_length_eq_zero h0⟩, rfl, .inl rfl⟩
  · refine ⟨.inr ⟨g, cap, hv, hc, hm, ?_, ?_⟩, rfl, .inr ⟨g, cap, hv, hb⟩⟩
    · intro i hi
      have e : cur.toList[i]? = some (.int .i64 ((l[i] : Nat) : Int)) := by
        have : (cur.toList.take (l.length * 1))[i]? = (vs l)[i]? := by rw [ht]
        rw [List.getElem?_take] at this
        rw [if_pos (by omega)] at this
        rw [this]
        simp [vs, hi]
      have hlt : g < w.heap.size := by
        rcases Nat.lt_or_ge g w.heap.size with c | c
        · exact c
        · rw [Array.getElem?_eq_none c] at hg; cases hg
      simp [World.cell?, hg]
      simpa using e
    · rcases Nat.lt_or_ge g w.heap.size with c | c
      · exact c
      · rw [Array.getElem?_eq_none c] at hg; cases hg
theorem news1 {w : World} {ad : Addr} {x : Value} {j : Nat} {u : Value} (hj : ([x] : List Value)[j]? = some u) (h : w.cell? (ad.add 0) = some x) : w.cell? (ad.add j) = some u := by
  rcases j with _ | j
  · simp at hj; rw [← hj]; exact h
  · simp at hj
theorem own_below {W w w' : World} {v : Value} {n : Nat} {l : List Value} (hB : Below W.heap.size W w) (h : w.ownsRow W.heap.size 3 1 v n l) (hg : (w.alloc (.cells #[.int .i64 0] 3)).grownBy w' v.ownBlock) : Below W.heap.size W w' :=
  (hB.alloc hB.size _).grown hg (by have := hB.size; simp; omega) (fun k hk => (h.lt k hk).1)
set_option maxHeartbeats 2000000 in
theorem bigOf_any (n : Nat) (hn : n < 9223372036854775808) (w : World) : Calls Tryd.prog 51 #[.int .i64 n] w fun e w' => ∃ v, e = .returned v ∧ Bg w' v (dn n) ∧ Below w.heap.size w w' := by
  have HL : Hid ((dn n).length ≤ 4) := dn_len_le (by omega)
  obtain ⟨i0, hi, hz0, hz1, hz2⟩ := info_parts infoI
  go_enter Tryd.func51, Tryd.ntmps51
  go_wp2
  go_loopw [0, 3] (fun s v wr => ∃ (m : Nat) (o : List Nat), m ≤ n ∧ Hid (o ++ dn m = dn n) ∧ s = .int .i64 m ∧ wr.ownsRow w.heap.size 3 1 v o.length (vs o) ∧ Below w.heap.size w wr) (fun s _ _ => (intOf s).toNat)
  case atStart => exact ⟨n, [], Nat.le_refl _, rfl, rfl, World.ownsRow_nil _ _ _ _, Below.refl _ _⟩
  case round =>
    obtain ⟨m, o, hm, HO, rfl, hown, hB⟩ := hrel
    rcases Nat.eq_zero_or_pos m with rfl | hp
    · have HE : Hid (o = dn n) := by have := HO.out; rw [dn_zero, List.append_nil] at this; exact this
      go_wp2
      go_ret
      exact ⟨_, rfl, by rw [← HE.out]; exact (own_bg hown).1, hB⟩
    · have HO2 : Hid ((o ++ [m % 1000000]) ++ dn (m / 1000000) = dn n) := by
        show (o ++ [m % 1000000]) ++ dn (m / 1000000) = dn n
        rw [List.append_assoc, List.singleton_append, ← dn_pos (by omega)]; exact HO.out
      have HLo : Hid (o.length + 1 ≤ 4) := by
        show o.length + 1 ≤ 4
        have h1 := congrArg List.length HO2.out
        simp at h1
        have := HL.out
        omega
      have em : (m : Int).tmod 1000000 = ((m % 1000000 : Nat) : Int) := by rw [Int.tmod_eq_emod_of_nonneg (by omega)]; omega
      have eq : (m : Int).tdiv 1000000 = ((m / 1000000 : Nat) : Int) := by rw [Int.tdiv_eq_ediv_of_nonneg (by omega)]; omega
      have hp' : (0 : Int) < (m : Int) := by omega
      go_wp2_with (at_builtin; refine wpList_append_own _ rfl _ _ 59 rfl w.heap.size 3 i0 (.int .i64 0) 1 8 undB hi hz0 hz1 hz2 rfl (by decide) _ _ _ rfl (hown.alloc _) ⟨wr.heap.size, 0, none⟩ 1 1 [.int .i64 ((m % 1000000 : Nat) : Int)] rfl rfl ?c1 ?c2 ?c3 ?c4 ?c5 ?_)
      case c1 => intro j u hj; exact news1 hj (by simp [go_sem, Addr.add])
      case c2 => intro u hu; simp at hu; subst hu; rfl
      case c3 => have := HLo.out; unfold maxLen; omega
      case c4 => have := HLo.out; omega
      case c5 => have := hB.size; simp; omega
      intro v' w1 hown' hgrow _
      have hB1 : Below w.heap.size w w1 := (hB.alloc hB.size _).grown hgrow (by have := hB.size; simp; omega) (fun k hk => (hown.lt k hk).1)
      rw [show ((m : Int) % 1000000) = ((m % 1000000 : Nat) : Int) by omega, vs_snoc] at hown'
      clear hgrow hown hB
      go_wp2
      go_roundw
      case rel => exact ⟨m / 1000000, o ++ [m % 1000000], by omega, HO2, by go_num, by simpa using hown', hB1⟩
      case measure => simp [intOf]; omega
end Go.Proofs.YtpdiefmmenfpaaaDoor
namespace Go.Proofs.YtpdiefmmenfpaaaDoor
open Go.RowKit BG

theorem take_dv {l : List Nat} (i : Nat) : dv (l.take (i + 1)) = dv (l.take i) + 1000000 ^ i * l.getD i 0 := by
  by_cases h : i < l.length
  · rw [List.take_succ_eq_append_getElem h, dv_snoc, List.length_take, Nat.min_eq_left (Nat.le_of_lt h)]
    simp [List.getD, h]
  · rw [List.take_of_length_le (by omega), List.take_of_length_le (by omega)]
    simp [List.getD, Nat.not_lt.1 h]
/-- A round of adding. -/
theorem add_round {a b o : List Nat} {i c : Nat} (hi : o.length = i) (h : dv o + 1000000 ^ i * c = dv (a.take i) + dv (b.take i)) : dv (o ++ [(c + a.getD i 0 + b.getD i 0) % 1000000]) + 1000000 ^ (i + 1) * ((c + a.getD i 0 + b.getD i 0) / 1000000) = dv (a.take (i + 1)) + dv (b.take (i + 1)) := by
  rw [take_dv, take_dv, dv_snoc, hi]
  generalize a.getD i 0 = x
  generalize b.getD i 0 = y
  generalize dv (a.take i) = A at *
  generalize dv (b.take i) = B at *
  generalize dv o = O at *
  have e : 1000000 ^ i * ((c + x + y) % 1000000) + 1000000 ^ (i + 1) * ((c + x + y) / 1000000) = 1000000 ^ i * (c + x + y) := by
    rw [Nat.pow_succ, Nat.mul_assoc, ← Nat.mul_add]; congr 1; omega
  rw [Nat.mul_add, Nat.mul_add] at e
  omega
theorem add_end {a b o : List Nat} {i : Nat} (ha : a.length ≤ i) (hb : b.length ≤ i) (h : dv o + 1000000 ^ i * 0 = dv (a.take i) + dv (b.take i)) : dv o = dv a + dv b := by
  rw [List.take_of_length_le ha, List.take_of_length_le hb] at h; omega
set_option maxHeartbeats 4000000 in
theorem bigAdd_gen (ad bd : Option Addr) (ba bb : Nat) (a b : List Nat) (ca cb : Nat) (hda : Dg a) (hdb : Dg b) (la : a.length ≤ 400) (lb : b.length ≤ 400) (w : World) (ra : Row w ba a ∨ a = []) (rb : Row w bb b ∨ b = [])
    (ia : ∀ k : Nat, k < a.length → ∀ w, (Instr.indexAt 59 (.slice ad a.length ca) (.int .i64 k)).run Tryd.prog w = .ok (.pointer (some ⟨ba, k, none⟩)) w)
    (ib : ∀ k : Nat, k < b.length → ∀ w, (Instr.indexAt 59 (.slice bd b.length cb) (.int .i64 k)).run Tryd.prog w = .ok (.pointer (some ⟨bb, k, none⟩)) w) :
    Calls Tryd.prog 69 #[.slice ad a.length ca, .slice bd b.length cb] w fun e w' => ∃ v, e = .returned v ∧ Bg w' v (dn (dv a + dv b)) ∧ Below w.heap.size w w' := by
  have HA := hidb hda
  have HB := hidb hdb
  have RA := hidb ra
  have RB := hidb rb
  have IA := hidb ia
  have IB := hidb ib
  clear hda hdb ra rb ia ib
  obtain ⟨i0, hi, hz0, hz1, hz2⟩ := info_parts infoI
  go_enter Tryd.func69, Tryd.ntmps69
  go_wp2
  go_loopw [5, 6, 7] (fun v s t wr => ∃ (c i : Nat) (o : List Nat), c ≤ 1 ∧ i ≤ 401 ∧ (400 < i → c = 0) ∧ Hid (o.length = i ∧ Dg o ∧ dv o + 1000000 ^ i * c = dv (a.take i) + dv (b.take i)) ∧ s = .int .i64 c ∧ t = .int .i64 i ∧ wr.ownsRow w.heap.size 3 1 v o.length (vs o) ∧ Below w.heap.size w wr) (fun _ s t _ => 2 * (1000 - (intOf t).toNat) + (intOf s).toNat)
  case atStart => exact ⟨0, 0, [], by omega, by omega, by omega, ⟨rfl, fun _ h => by (cases h), by simp [dv]⟩, rfl, rfl, World.ownsRow_nil _ _ _ _, Below.refl _ _⟩
  case round =>
    obtain ⟨c, i, o, hc, hi4, hic, HO, rfl, rfl, hown, hB⟩ := hrel
    by_cases h1 : i < a.length <;> by_cases h2 : i < b.length
    · have hic2 : i < 400 := by omega
      have ea : a.getD i 0 = a[i] := by simp [List.getD, h1]
      have xa := HA.out.get h1
      have na : a ≠ [] := by intro e; rw [e] at h1; simp at h1
      have ca' := (RA.out.resolve_right na).below hB
      have cella := ca'.1 i h1
      have ixa := IA.out i h1
      have eb : b.getD i 0 = b[i] := by simp [List.getD, h2]
      have xb := HB.out.get h2
      have nb : b ≠ [] := by intro e; rw [e] at h2; simp at h2
      have cb' := (RB.out.resolve_right nb).below hB
      have cellb := cb'.1 i h2
      have ixb := IB.out i h2
      have HR := hidb (add_round HO.out.1 HO.out.2.2)
      rw [ea, eb] at HR
      have HL := hidb HO.out.1
      have HD := hidb HO.out.2.1
      clear HO ea eb IA IB RA RB na ca' nb cb'
      generalize a[i] = x at *
      generalize b[i] = y at *
      have em : ((c : Int) + (x : Int) + (y : Int)).tmod 1000000 = (((c + x + y) % 1000000 : Nat) : Int) := by rw [Int.tmod_eq_emod_of_nonneg (by omega)]; omega
      have eq : ((c : Int) + (x : Int) + (y : Int)).tdiv 1000000 = (((c + x + y) / 1000000 : Nat) : Int) := by rw [Int.tdiv_eq_ediv_of_nonneg (by omega)]; omega
      obtain ⟨d, hd⟩ : ∃ d, d = (c + x + y) % 1000000 := ⟨_, rfl⟩
      obtain ⟨q, hq⟩ : ∃ q, q = (c + x + y) / 1000000 := ⟨_, rfl⟩
      rw [← hd] at em
      rw [← hq] at eq
      rw [← hd, ← hq] at HR
      have hd1 : d < 1000000 := by omega
      have hq1 : q ≤ 1 := by omega
      clear hd
      go_wp2_with (at_builtin; refine wpList_append_own _ rfl _ _ 59 rfl w.heap.size 3 i0 (.int .i64 0) 1 8 undB hi hz0 hz1 hz2 rfl (by decide) _ _ _ rfl (hown.alloc _) ⟨wr.heap.size, 0, none⟩ 1 1 [.int .i64 d] rfl rfl ?c1 ?c2 ?c3 ?c4 ?c5 ?_)
      case c1 => intro j u hj; exact news1 hj (by simp [go_sem, Addr.add])
      case c2 => intro u hu; simp at hu; subst hu; rfl
      case c3 => have := HL.out; unfold maxLen; omega
      case c4 => have := HL.out; omega
      case c5 => have := hB.size; simp; omega
      intro v' w1 hown' hgrow _
      have hB1 : Below w.heap.size w w1 := (hB.alloc hB.size _).grown hgrow (by have := hB.size; simp; omega) (fun k hk => (hown.lt k hk).1)
      rw [vs_snoc] at hown'
      clear hgrow hown hB
      go_wp2
      go_roundw
      case rel => exact ⟨q, i + 1, o ++ [d], hq1, by omega, by omega, ⟨by simp [HL.out], HD.out.snoc hd1, HR.out⟩, by go_num, by go_num, by simpa using hown', hB1⟩
      case measure => simp [intOf]; omega
    · have hic2 : i < 400 := by omega
      have ea : a.getD i 0 = a[i] := by simp [List.getD, h1]
      have xa := HA.out.get h1
      have na : a ≠ [] := by intro e; rw [e] at h1; simp at h1
      have ca' := (RA.out.resolve_right na).below hB
      have cella := ca'.1 i h1
      have ixa := IA.out i h1
      have eb : b.getD i 0 = 0 := by simp [List.getD, Nat.not_lt.1 h2]
      have HR := hidb (add_round HO.out.1 HO.out.2.2)
      rw [ea, eb] at HR
      have HL := hidb HO.out.1
      have HD := hidb HO.out.2.1
      clear HO ea eb IA IB RA RB na ca'
      generalize a[i] = x at *
      have em : ((c : Int) + (x : Int)).tmod 1000000 = (((c + x + 0) % 1000000 : Nat) : Int) := by rw [Int.tmod_eq_emod_of_nonneg (by omega)]; omega
      have eq : ((c : Int) + (x : Int)).tdiv 1000000 = (((c + x + 0) / 1000000 : Nat) : Int) := by rw [Int.tdiv_eq_ediv_of_nonneg (by omega)]; omega
      obtain ⟨d, hd⟩ : ∃ d, d = (c + x + 0) % 1000000 := ⟨_, rfl⟩
      obtain ⟨q, hq⟩ : ∃ q, q = (c + x + 0) / 1000000 := ⟨_, rfl⟩
      rw [← hd] at em
      rw [← hq] at eq
      rw [← hd, ← hq] at HR
      have hd1 : d < 1000000 := by omega
      have hq1 : q ≤ 1 := by omega
      clear hd
      go_wp2_with (at_builtin; refine wpList_append_own _ rfl _ _ 59 rfl w.heap.size 3 i0 (.int .i64 0) 1 8 undB hi hz0 hz1 hz2 rfl (by decide) _ _ _ rfl (hown.alloc _) ⟨wr.heap.size, 0, none⟩ 1 1 [.int .i64 d] rfl rfl ?c1 ?c2 ?c3 ?c4 ?c5 ?_)
      case c1 => intro j u hj; exact news1 hj (by simp [go_sem, Addr.add])
      case c2 => intro u hu; simp at hu; subst hu; rfl
      case c3 => have := HL.out; unfold maxLen; omega
      case c4 => have := HL.out; omega
      case c5 => have := hB.size; simp; omega
      intro v' w1 hown' hgrow _
      have hB1 : Below w.heap.size w w1 := (hB.alloc hB.size _).grown hgrow (by have := hB.size; simp; omega) (fun k hk => (hown.lt k hk).1)
      rw [vs_snoc] at hown'
      clear hgrow hown hB
      go_wp2
      go_roundw
      case rel => exact ⟨q, i + 1, o ++ [d], hq1, by omega, by omega, ⟨by simp [HL.out], HD.out.snoc hd1, HR.out⟩, by go_num, by go_num, by simpa using hown', hB1⟩
      case measure => simp [intOf]; omega
    · have hic2 : i < 400 := by omega
      have ea : a.getD i 0 = 0 := by simp [List.getD, Nat.not_lt.1 h1]
      have eb : b.getD i 0 = b[i] := by simp [List.getD, h2]
      have xb := HB.out.get h2
      have nb : b ≠ [] := by intro e; rw [e] at h2; simp at h2
      have cb' := (RB.out.resolve_right nb).below hB
      have cellb := cb'.1 i h2
      have ixb := IB.out i h2
      have HR := hidb (add_round HO.out.1 HO.out.2.2)
      rw [ea, eb] at HR
      have HL := hidb HO.out.1
      have HD := hidb HO.out.2.1
      clear HO ea eb IA IB RA RB nb cb'
      generalize b[i] = y at *
      have em : ((c : Int) + (y : Int)).tmod 1000000 = (((c + 0 + y) % 1000000 : Nat) : Int) := by rw [Int.tmod_eq_emod_of_nonneg (by omega)]; omega
      have eq : ((c : Int) + (y : Int)).tdiv 1000000 = (((c + 0 + y) / 1000000 : Nat) : Int) := by rw [Int.tdiv_eq_ediv_of_nonneg (by omega)]; omega
      obtain ⟨d, hd⟩ : ∃ d, d = (c + 0 + y) % 1000000 := ⟨_, rfl⟩
      obtain ⟨q, hq⟩ : ∃ q, q = (c + 0 + y) / 1000000 := ⟨_, rfl⟩
      rw [← hd] at em
      rw [← hq] at eq
      rw [← hd, ← hq] at HR
      have hd1 : d < 1000000 := by omega
      have hq1 : q ≤ 1 := by omega
      clear hd
      go_wp2_with (at_builtin; refine wpList_append_own _ rfl _ _ 59 rfl w.heap.size 3 i0 (.int .i64 0) 1 8 undB hi hz0 hz1 hz2 rfl (by decide) _ _ _ rfl (hown.alloc _) ⟨wr.heap.size, 0, none⟩ 1 1 [.int .i64 d] rfl rfl ?c1 ?c2 ?c3 ?c4 ?c5 ?_)
      case c1 => intro j u hj; exact news1 hj (by simp [go_sem, Addr.add])
      case c2 => intro u hu; simp at hu; subst hu; rfl
      case c3 => have := HL.out; unfold maxLen; omega
      case c4 => have := HL.out; omega
      case c5 => have := hB.size; simp; omega
      intro v' w1 hown' hgrow _
      have hB1 : Below w.heap.size w w1 := (hB.alloc hB.size _).grown hgrow (by have := hB.size; simp; omega) (fun k hk => (hown.lt k hk).1)
      rw [vs_snoc] at hown'
      clear hgrow hown hB
      go_wp2
      go_roundw
      case rel => exact ⟨q, i + 1, o ++ [d], hq1, by omega, by omega, ⟨by simp [HL.out], HD.out.snoc hd1, HR.out⟩, by go_num, by go_num, by simpa using hown', hB1⟩
      case measure => simp [intOf]; omega
    · by_cases h3 : c = 0
      · subst h3
        have HE := hidb (add_end (Nat.not_lt.1 h1) (Nat.not_lt.1 h2) HO.out.2.2)
        have HD := hidb HO.out.2.1
        have HG := hidb (own_bg hown).1
        clear IA IB RA RB HO HA HB
        go_wp2_with fail
        refine (trimmed_bg HD.out HG.out).mono ?_
        rintro e w2 ⟨v', rfl, hv, rfl⟩
        rw [HE.out] at hv
        go_wp2
        go_ret
        exact ⟨_, rfl, hv, hB⟩
      obtain rfl : c = 1 := by omega
      have hic2 : i ≤ 400 := by omega
      have ea : a.getD i 0 = 0 := by simp [List.getD, Nat.not_lt.1 h1]
      have eb : b.getD i 0 = 0 := by simp [List.getD, Nat.not_lt.1 h2]
      have HR := hidb (add_round HO.out.1 HO.out.2.2)
      rw [ea, eb] at HR
      have HL := hidb HO.out.1
      have HD := hidb HO.out.2.1
      clear HO ea eb IA IB RA RB HA HB
      go_wp2_with (at_builtin; refine wpList_append_own _ rfl _ _ 59 rfl w.heap.size 3 i0 (.int .i64 0) 1 8 undB hi hz0 hz1 hz2 rfl (by decide) _ _ _ rfl (hown.alloc _) ⟨wr.heap.size, 0, none⟩ 1 1 [.int .i64 ((1 : Nat) : Int)] rfl rfl ?c1 ?c2 ?c3 ?c4 ?c5 ?_)
      case c1 => intro j u hj; exact news1 hj (by simp [go_sem, Addr.add])
      case c2 => intro u hu; simp at hu; subst hu; rfl
      case c3 => have := HL.out; unfold maxLen; omega
      case c4 => have := HL.out; omega
      case c5 => have := hB.size; simp; omega
      intro v' w1 hown' hgrow _
      have hB1 : Below w.heap.size w w1 := (hB.alloc hB.size _).grown hgrow (by have := hB.size; simp; omega) (fun k hk => (hown.lt k hk).1)
      clear hgrow hown hB
      go_wp2
      go_roundw
      case rel => exact ⟨0, i + 1, o ++ [1], by omega, by omega, by omega, ⟨by simp [HL.out], HD.out.snoc (by omega), HR.out⟩, by go_num, by go_num, by simpa [vs] using hown', hB1⟩
      case measure => simp [intOf]; omega
theorem index_row (b n cap k : Nat) (hk : k < n) (w : World) : (Instr.indexAt 59 (.slice (some ⟨b, 0, none⟩) n cap) (.int .i64 k)).run Tryd.prog w = .ok (.pointer (some ⟨b, k, none⟩)) w := by
  refine (run_indexAt_slice (P := Tryd.prog) (w := w) 59 ⟨b, 0, none⟩ n cap .i64 (k : Int) (by kernel_rfl)).trans ?_
  rw [if_pos ⟨by omega, by omega⟩]
  have hs : (sizeOf (Tryd.prog.elem 59)).run Tryd.prog w = .ok 1 w := by kernel_rfl
  rw [hs]
  simp [Addr.add]
  intro h; exact h.symm
theorem bigAdd_any {w : World} {u v : Value} {a b : List Nat} (hda : Dg a) (hdb : Dg b) (la : a.length ≤ 400) (lb : b.length ≤ 400) (ha : Bg w u a) (hb : Bg w v b) : Calls Tryd.prog 69 #[u, v] w fun e w' => ∃ v, e = .returned v ∧ Bg w' v (dn (dv a + dv b)) ∧ Below w.heap.size w w' := by
  rcases ha with ⟨rfl, rfl⟩ | ⟨ba, ca, rfl, _, _, ra⟩ <;> rcases hb with ⟨rfl, rfl⟩ | ⟨bb, cb, rfl, _, _, rb⟩
  · exact bigAdd_gen none none 0 0 [] [] 0 0 hda hdb la lb w (.inr rfl) (.inr rfl) (fun k hk => by simp at hk) (fun k hk => by simp at hk)
  · exact bigAdd_gen none (some ⟨bb, 0, none⟩) 0 bb [] b 0 cb hda hdb la lb w (.inr rfl) (.inl rb) (fun k hk => by simp at hk) (fun k hk w => index_row bb _ cb k hk w)
  · exact bigAdd_gen (some ⟨ba, 0, none⟩) none ba 0 a [] ca 0 hda hdb la lb w (.inl ra) (.inr rfl) (fun k hk w => index_row ba _ ca k hk w) (fun k hk => by simp at hk)
  · exact bigAdd_gen (some ⟨ba, 0, none⟩) (some ⟨bb, 0, none⟩) ba bb a b ca cb hda hdb la lb w (.inl ra) (.inl rb) (fun k hk w => index_row ba _ ca k hk w) (fun k hk w => index_row bb _ cb k hk w)
end Go.Proofs.YtpdiefmmenfpaaaDoor
namespace Go.Proofs.YtpdiefmmenfpaaaDoor
open Go.RowKit BG

/-- A round of taking off: nothing borrowed, something borrowed. -/
theorem sub_round0 {a b o : List Nat} {i c d : Nat} (hi : o.length = i) (hd : d + c + b.getD i 0 = a.getD i 0) (h : dv o + dv (b.take i) = dv (a.take i) + 1000000 ^ i * c) : dv (o ++ [d]) + dv (b.take (i + 1)) = dv (a.take (i + 1)) + 1000000 ^ (i + 1) * 0 := by
  rw [take_dv, take_dv, dv_snoc, hi, ← hd, Nat.mul_add, Nat.mul_add]
  omega
theorem sub_round1 {a b o : List Nat} {i c d : Nat} (hi : o.length = i) (hd : d + c + b.getD i 0 = a.getD i 0 + 1000000) (h : dv o + dv (b.take i) = dv (a.take i) + 1000000 ^ i * c) : dv (o ++ [d]) + dv (b.take (i + 1)) = dv (a.take (i + 1)) + 1000000 ^ (i + 1) * 1 := by
  rw [take_dv, take_dv, dv_snoc, hi, Nat.pow_succ]
  have e := congrArg (1000000 ^ i * ·) hd
  simp only [Nat.mul_add] at e
  omega
theorem sub_end {a b o : List Nat} {c : Nat} (hD : Dg o) (hl : o.length = a.length) (hb : b.length ≤ a.length) (hab : dv b ≤ dv a) (h : dv o + dv (b.take a.length) = dv (a.take a.length) + 1000000 ^ a.length * c) : dv o = dv a - dv b := by
  rw [List.take_of_length_le hb, List.take_of_length_le (Nat.le_refl _)] at h
  have h1 := dv_lt hD
  rw [hl] at h1
  rcases Nat.eq_zero_or_pos c with rfl | hc
  · omega
  · have : 1000000 ^ a.length * 1 ≤ 1000000 ^ a.length * c := Nat.mul_le_mul_left _ hc
    omega
set_option maxRecDepth 4000 in
set_option maxHeartbeats 4000000 in
theorem bigSub_gen (ad bd : Option Addr) (ba bb : Nat) (a b : List Nat) (ca cb : Nat) (hda : Dg a) (hdb : Dg b) (la : a.length ≤ 400) (hlen : b.length ≤ a.length) (hab : dv b ≤ dv a) (w : World) (ra : Row w ba a ∨ a = []) (rb : Row w bb b ∨ b = [])
    (ia : ∀ k : Nat, k < a.length → ∀ w, (Instr.indexAt 59 (.slice ad a.length ca) (.int .i64 k)).run Tryd.prog w = .ok (.pointer (some ⟨ba, k, none⟩)) w)
    (ib : ∀ k : Nat, k < b.length → ∀ w, (Instr.indexAt 59 (.slice bd b.length cb) (.int .i64 k)).run Tryd.prog w = .ok (.pointer (some ⟨bb, k, none⟩)) w) :
    Calls Tryd.prog 70 #[.slice ad a.length ca, .slice bd b.length cb] w fun e w' => ∃ v, e = .returned v ∧ Bg w' v (dn (dv a - dv b)) ∧ Below w.heap.size w w' := by
  have HA := hidb hda
  have HB := hidb hdb
  have RA := hidb ra
  have RB := hidb rb
  have IA := hidb ia
  have IB := hidb ib
  have HAB := hidb hab
  clear ib ia rb ra hda hdb hab
  obtain ⟨i0, hi, hz0, hz1, hz2⟩ := info_parts infoI
  go_enter Tryd.func70, Tryd.ntmps70
  go_wp2
  go_loopw [5, 6, 7] (fun v s t wr => ∃ (c i : Nat) (o : List Nat), c ≤ 1 ∧ i ≤ a.length ∧ Hid (o.length = i ∧ Dg o ∧ dv o + dv (b.take i) = dv (a.take i) + 1000000 ^ i * c) ∧ s = .int .i64 c ∧ t = .int .i64 i ∧ wr.ownsRow w.heap.size 3 1 v o.length (vs o) ∧ Below w.heap.size w wr) (fun _ _ t _ => a.length - (intOf t).toNat)
  case atStart => exact ⟨0, 0, [], by omega, by omega, ⟨rfl, fun _ h => by (cases h), by simp [dv]⟩, rfl, rfl, World.ownsRow_nil _ _ _ _, Below.refl _ _⟩
  case round =>
    obtain ⟨c, i, o, hc, hi4, HO, rfl, rfl, hown, hB⟩ := hrel
    by_cases h1 : i < a.length
    · have ea : a.getD i 0 = a[i] := by simp [List.getD, h1]
      have xa := HA.out.get h1
      have na : a ≠ [] := by intro e; rw [e] at h1; simp at h1
      have ca' := (RA.out.resolve_right na).below hB
      have cella := ca'.1 i h1
      have ixa := IA.out i h1
      have HL := hidb HO.out.1
      have HD := hidb HO.out.2.1
      by_cases h2 : i < b.length
      · have hx2 : True := trivial
        have eb : b.getD i 0 = b[i] := by simp [List.getD, h2]
        have xb := HB.out.get h2
        have nb : b ≠ [] := by intro e; rw [e] at h2; simp at h2
        have cb' := (RB.out.resolve_right nb).below hB
        have cellb := cb'.1 i h2
        have ixb := IB.out i h2
        generalize a[i] = x at *
        generalize b[i] = y at *
        by_cases h3 : x < c + y
        · clear hx2
          obtain ⟨d, hd⟩ : ∃ d : Nat, d + c + y = x + 1000000 := ⟨x + 1000000 - c - y, by omega⟩
          have HR := hidb (sub_round1 (d := d) HO.out.1 (by rw [ea, eb]; exact hd) HO.out.2.2)
          have hd1 : d < 1000000 := by omega
          have tn : (x : Int) - (c : Int) - (y : Int) < 0 := by omega
          have es : (x : Int) - (c : Int) - (y : Int) + 1000000 = (d : Int) := by omega
          clear HO ea eb IA IB RA RB na ca' nb cb' HA HB HAB hd h3
          go_wp2_with (at_builtin; refine wpList_append_own _ rfl _ _ 59 rfl w.heap.size 3 i0 (.int .i64 0) 1 8 undB hi hz0 hz1 hz2 rfl (by decide) _ _ _ rfl (hown.alloc _) ⟨wr.heap.size, 0, none⟩ 1 1 [.int .i64 d] rfl rfl (fun j u hj => news1 hj (by simp [go_sem, Addr.add])) (fun u hu => by simp at hu; subst hu; rfl) (by have := HL.out; unfold maxLen; omega) (by have := HL.out; omega) (by have := hB.size; simp; omega) ?_)
          intro v' w1 hown' hgrow _
          have hB1 : Below w.heap.size w w1 := (hB.alloc hB.size _).grown hgrow (by have := hB.size; simp; omega) (fun k hk => (hown.lt k hk).1)
          rw [vs_snoc] at hown'
          clear hgrow hown hB
          go_wp2
          go_roundw
          case rel => exact ⟨1, i + 1, o ++ [d], by omega, by omega, ⟨by simp [HL.out], HD.out.snoc hd1, HR.out⟩, by go_num, by go_num, by simpa using hown', hB1⟩
          case measure => simp [intOf]; omega
        · clear hx2
          obtain ⟨d, hd⟩ : ∃ d : Nat, d + c + y = x := ⟨x - c - y, by omega⟩
          have HR := hidb (sub_round0 (d := d) HO.out.1 (by rw [ea, eb]; exact hd) HO.out.2.2)
          have hd1 : d < 1000000 := by omega
          have es : (x : Int) - (c : Int) - (y : Int) = (d : Int) := by omega
          have tn : ¬ (d : Int) < 0 := by omega
          clear HO ea eb IA IB RA RB na ca' nb cb' HA HB HAB hd h3
          go_wp2_with (at_builtin; refine wpList_append_own _ rfl _ _ 59 rfl w.heap.size 3 i0 (.int .i64 0) 1 8 undB hi hz0 hz1 hz2 rfl (by decide) _ _ _ rfl (hown.alloc _) ⟨wr.heap.size, 0, none⟩ 1 1 [.int .i64 d] rfl rfl (fun j u hj => news1 hj (by simp [go_sem, Addr.add])) (fun u hu => by simp at hu; subst hu; rfl) (by have := HL.out; unfold maxLen; omega) (by have := HL.out; omega) (by have := hB.size; simp; omega) ?_)
          intro v' w1 hown' hgrow _
          have hB1 : Below w.heap.size w w1 := (hB.alloc hB.size _).grown hgrow (by have := hB.size; simp; omega) (fun k hk => (hown.lt k hk).1)
          rw [vs_snoc] at hown'
          clear hgrow hown hB
          go_wp2
          go_roundw
          case rel => exact ⟨0, i + 1, o ++ [d], by omega, by omega, ⟨by simp [HL.out], HD.out.snoc hd1, HR.out⟩, by go_num, by go_num, by simpa using hown', hB1⟩
          case measure => simp [intOf]; omega
      · have hx2 : True := trivial
        have eb : b.getD i 0 = 0 := by simp [List.getD, Nat.not_lt.1 h2]
        generalize a[i] = x at *
        by_cases h3 : x < c + 0
        · clear hx2
          obtain ⟨d, hd⟩ : ∃ d : Nat, d + c + 0 = x + 1000000 := ⟨x + 1000000 - c - 0, by omega⟩
          have HR := hidb (sub_round1 (d := d) HO.out.1 (by rw [ea, eb]; exact hd) HO.out.2.2)
          have hd1 : d < 1000000 := by omega
          have tn : (x : Int) - (c : Int) < 0 := by omega
          have es : (x : Int) - (c : Int) + 1000000 = (d : Int) := by omega
          clear HO ea eb IA IB RA RB na ca' HA HB HAB hd h3
          go_wp2_with (at_builtin; refine wpList_append_own _ rfl _ _ 59 rfl w.heap.size 3 i0 (.int .i64 0) 1 8 undB hi hz0 hz1 hz2 rfl (by decide) _ _ _ rfl (hown.alloc _) ⟨wr.heap.size, 0, none⟩ 1 1 [.int .i64 d] rfl rfl (fun j u hj => news1 hj (by simp [go_sem, Addr.add])) (fun u hu => by simp at hu; subst hu; rfl) (by have := HL.out; unfold maxLen; omega) (by have := HL.out; omega) (by have := hB.size; simp; omega) ?_)
          intro v' w1 hown' hgrow _
          have hB1 : Below w.heap.size w w1 := (hB.alloc hB.size _).grown hgrow (by have := hB.size; simp; omega) (fun k hk => (hown.lt k hk).1)
          rw [vs_snoc] at hown'
          clear hgrow hown hB
          go_wp2
          go_roundw
          case rel => exact ⟨1, i + 1, o ++ [d], by omega, by omega, ⟨by simp [HL.out], HD.out.snoc hd1, HR.out⟩, by go_num, by go_num, by simpa using hown', hB1⟩
          case measure => simp [intOf]; omega
        · clear hx2
          obtain ⟨d, hd⟩ : ∃ d : Nat, d + c + 0 = x := ⟨x - c - 0, by omega⟩
          have HR := hidb (sub_round0 (d := d) HO.out.1 (by rw [ea, eb]; exact hd) HO.out.2.2)
          have hd1 : d < 1000000 := by omega
          have es : (x : Int) - (c : Int) = (d : Int) := by omega
          have tn : ¬ (d : Int) < 0 := by omega
          clear HO ea eb IA IB RA RB na ca' HA HB HAB hd h3
          go_wp2_with (at_builtin; refine wpList_append_own _ rfl _ _ 59 rfl w.heap.size 3 i0 (.int .i64 0) 1 8 undB hi hz0 hz1 hz2 rfl (by decide) _ _ _ rfl (hown.alloc _) ⟨wr.heap.size, 0, none⟩ 1 1 [.int .i64 d] rfl rfl (fun j u hj => news1 hj (by simp [go_sem, Addr.add])) (fun u hu => by simp at hu; subst hu; rfl) (by have := HL.out; unfold maxLen; omega) (by have := HL.out; omega) (by have := hB.size; simp; omega) ?_)
          intro v' w1 hown' hgrow _
          have hB1 : Below w.heap.size w w1 := (hB.alloc hB.size _).grown hgrow (by have := hB.size; simp; omega) (fun k hk => (hown.lt k hk).1)
          rw [vs_snoc] at hown'
          clear hgrow hown hB
          go_wp2
          go_roundw
          case rel => exact ⟨0, i + 1, o ++ [d], by omega, by omega, ⟨by simp [HL.out], HD.out.snoc hd1, HR.out⟩, by go_num, by go_num, by simpa using hown', hB1⟩
          case measure => simp [intOf]; omega
    · obtain rfl : i = a.length := by omega
      have HE := hidb (sub_end HO.out.2.1 HO.out.1 hlen HAB.out HO.out.2.2)
      have HD := hidb HO.out.2.1
      have HG := hidb (own_bg hown).1
      clear IA IB RA RB HO HA HB HAB
      go_wp2_with fail
      refine (trimmed_bg HD.out HG.out).mono ?_
      rintro e w2 ⟨v', rfl, hv, rfl⟩
      rw [HE.out] at hv
      go_wp2
      go_ret
      exact ⟨_, rfl, hv, hB⟩
theorem bigSub_any {w : World} {u v : Value} {a b : List Nat} (hda : Dg a) (hdb : Dg b) (la : a.length ≤ 400) (hlen : b.length ≤ a.length) (hab : dv b ≤ dv a) (ha : Bg w u a) (hb : Bg w v b) : Calls Tryd.prog 70 #[u, v] w fun e w' => ∃ v, e = .returned v ∧ Bg w' v (dn (dv a - dv b)) ∧ Below w.heap.size w w' := by
  rcases ha with ⟨rfl, rfl⟩ | ⟨ba, ca, rfl, _, _, ra⟩ <;> rcases hb with ⟨rfl, rfl⟩ | ⟨bb, cb, rfl, _, _, rb⟩
  · exact bigSub_gen none none 0 0 [] [] 0 0 hda hdb la hlen hab w (.inr rfl) (.inr rfl) (fun k hk => by simp at hk) (fun k hk => by simp at hk)
  · exact bigSub_gen none (some ⟨bb, 0, none⟩) 0 bb [] b 0 cb hda hdb la hlen hab w (.inr rfl) (.inl rb) (fun k hk => by simp at hk) (fun k hk w => index_row bb _ cb k hk w)
  · exact bigSub_gen (some ⟨ba, 0, none⟩) none ba 0 a [] ca 0 hda hdb la hlen hab w (.inl ra) (.inr rfl) (fun k hk w => index_row ba _ ca k hk w) (fun k hk => by simp at hk)
  · exact bigSub_gen (some ⟨ba, 0, none⟩) (some ⟨bb, 0, none⟩) ba bb a b ca cb hda hdb la hlen hab w (.inl ra) (.inl rb) (fun k hk w => index_row ba _ ca k hk w) (fun k hk w => index_row bb _ cb k hk w)
end Go.Proofs.YtpdiefmmenfpaaaDoor
namespace Go.Proofs.YtpdiefmmenfpaaaDoor
open Go.RowKit BG

/-- -1, 0, 1. -/
def cm (m n : Nat) : Int := if m < n then -1 else if n < m then 1 else 0
theorem below_dn {W w : World} {n : Nat} (h : Below W.heap.size W w) : Below W.heap.size W (w.drewN n) := ⟨h.1, h.2, h.3, h.4, h.5⟩
theorem drop_step {a b : List Nat} {j : Nat} (h1 : j < a.length) (h2 : j < b.length) (he : a.drop (j + 1) = b.drop (j + 1)) (h : a[j] = b[j]) : a.drop j = b.drop j := by
  rw [List.drop_eq_getElem_cons h1, List.drop_eq_getElem_cons h2, he, h]
set_option maxRecDepth 4000 in
set_option maxHeartbeats 4000000 in
theorem bigCmp_len (ad bd : Option Addr) (m n ca cb la lb : Nat) (h : la ≠ lb) (_h1 : la ≤ 400) (_h2 : lb ≤ 400) (hl : (la < lb → m < n) ∧ (lb < la → n < m)) (w : World) : Calls Tryd.prog 52 #[.slice ad la ca, .slice bd lb cb] w fun e w' => e = .returned (.int .i64 (cm m n)) ∧ Below w.heap.size w w' := by
  by_cases c : la < lb
  · have HE : Hid (cm m n = -1) := by unfold cm Hid; rw [if_pos (hl.1 c)]
    clear hl
    go_enter Tryd.func52, Tryd.ntmps52
    go_wp2
    go_ret
    exact ⟨by rw [HE.out]; rfl, Below.refl _ _⟩
  · have HE : Hid (cm m n = 1) := by
      have := hl.2 (by omega)
      unfold cm Hid; rw [if_neg (by omega), if_pos this]
    clear hl
    go_enter Tryd.func52, Tryd.ntmps52
    go_wp2
    go_ret
    exact ⟨by rw [HE.out]; rfl, Below.refl _ _⟩
set_option maxRecDepth 4000 in
set_option maxHeartbeats 4000000 in
theorem bigCmp_same (ad bd : Option Addr) (ba bb : Nat) (a b : List Nat) (ca cb : Nat) (hda : Dg a) (hdb : Dg b) (la : a.length ≤ 400) (hlen : a.length = b.length) (w : World) (ra : Row w ba a ∨ a = []) (rb : Row w bb b ∨ b = [])
    (ia : ∀ k : Nat, k < a.length → ∀ w, (Instr.indexAt 59 (.slice ad a.length ca) (.int .i64 k)).run Tryd.prog w = .ok (.pointer (some ⟨ba, k, none⟩)) w)
    (ib : ∀ k : Nat, k < b.length → ∀ w, (Instr.indexAt 59 (.slice bd b.length cb) (.int .i64 k)).run Tryd.prog w = .ok (.pointer (some ⟨bb, k, none⟩)) w) :
    Calls Tryd.prog 52 #[.slice ad a.length ca, .slice bd b.length cb] w fun e w' => e = .returned (.int .i64 (cm (dv a) (dv b))) ∧ Below w.heap.size w w' := by
  have HA := hidb hda
  have HB := hidb hdb
  have RA := hidb ra
  have RB := hidb rb
  have IA := hidb ia
  have IB := hidb ib
  clear ib ia rb ra hda hdb
  obtain ⟨n, hn⟩ : ∃ n, n = a.length := ⟨_, rfl⟩
  have hnb : b.length = n := by omega
  rw [← hn, hnb]
  have HN := hidb hn
  have HNB := hidb hnb
  rw [← hn] at la
  clear hn hnb hlen
  go_enter Tryd.func52, Tryd.ntmps52
  go_wp2
  go_loopw [5] (fun t wr => ∃ k : Nat, k ≤ n ∧ Hid (a.drop k = b.drop k) ∧ t = .int .i64 ((k : Int) - 1) ∧ Below w.heap.size w wr) (fun t _ => (intOf t + 1).toNat)
  case atStart => exact ⟨n, Nat.le_refl _, by show a.drop n = b.drop n; rw [List.drop_of_length_le (by rw [HN.out]; exact Nat.le_refl _), List.drop_of_length_le (by rw [HNB.out]; exact Nat.le_refl _)], rfl, Below.refl _ _⟩
  case round =>
    obtain ⟨k, hk, HD, rfl, hB⟩ := hrel
    rcases Nat.eq_zero_or_pos k with rfl | hp
    · have HE : Hid (cm (dv a) (dv b) = 0) := by
        have : a = b := by simpa using HD.out
        unfold cm Hid; rw [this, if_neg (by omega), if_neg (by omega)]
      clear HD IA IB RA RB HA HB HN HNB
      go_wp2
      go_ret
      exact ⟨by rw [HE.out]; rfl, hB⟩
    · obtain ⟨j, rfl⟩ : ∃ j, k = j + 1 := ⟨k - 1, by omega⟩
      have h1 : j < a.length := by rw [← HN.out]; omega
      have h2 : j < b.length := by rw [HNB.out]; omega
      have na : a ≠ [] := by intro e; rw [e] at h1; simp at h1
      have nb : b ≠ [] := by intro e; rw [e] at h2; simp at h2
      have cella := ((RA.out.resolve_right na).below hB).1 j h1
      have cellb := ((RB.out.resolve_right nb).below hB).1 j h2
      have ixa := IA.out j h1
      have ixb := IB.out j h2
      rw [← HN.out] at ixa
      rw [HNB.out] at ixb
      have ej : ((j + 1 : Nat) : Int) - 1 = (j : Int) := by omega
      rw [ej]
      have HC1 : Hid (a[j] < b[j] → cm (dv a) (dv b) = -1) := fun h => by
        unfold cm; rw [if_pos (dv_cmp HA.out HB.out h1 h2 HD.out h)]
      have HC2 : Hid (b[j] < a[j] → cm (dv a) (dv b) = 1) := fun h => by
        have := dv_cmp HB.out HA.out h2 h1 HD.out.symm h
        unfold cm; rw [if_neg (by omega), if_pos this]
      have HC3 : Hid (a[j] = b[j] → a.drop j = b.drop j) := fun h => drop_step h1 h2 HD.out h
      have hj0 : (0 : Int) ≤ (j : Int) := by omega
      clear HD IA IB RA RB HA HB HN HNB na nb
      generalize a[j] = x at *
      generalize b[j] = y at *
      by_cases c1 : x < y
      · have HE := hidb (HC1.out c1)
        go_upto_region 8 with fail
        go_quiet (fail)
        go_wp2
        go_ret
        exact ⟨by rw [HE.out]; rfl, below_dn hB⟩
      · by_cases c2 : y < x
        · have HE := hidb (HC2.out c2)
          go_upto_region 8 with fail
          go_quiet (fail)
          go_wp2_with fail
          go_quiet (fail)
          go_wp2
          go_ret
          exact ⟨by rw [HE.out]; rfl, (by first | exact below_dn hB | exact below_dn (below_dn hB))⟩
        · have HE := hidb (HC3.out (by omega))
          go_upto_region 8 with fail
          go_quiet (fail)
          go_wp2_with fail
          go_quiet (fail)
          go_wp2
          go_roundw
          case rel => exact ⟨j, by omega, HE.out, by go_num, (by first | exact below_dn hB | exact below_dn (below_dn hB))⟩
          case measure => simp [intOf]
/-- Canonical rows: the longer one is the greater. -/
theorem len_lt {m n : Nat} (h : (dn m).length < (dn n).length) : m < n := by
  rcases Nat.lt_or_ge m n with c | c
  · exact c
  · have := dn_len_mono c; omega
theorem bigCmp_any {w : World} {u v : Value} {m n : Nat} (lm : (dn m).length ≤ 400) (ln : (dn n).length ≤ 400) (ha : Bg w u (dn m)) (hb : Bg w v (dn n)) : Calls Tryd.prog 52 #[u, v] w fun e w' => e = .returned (.int .i64 (cm m n)) ∧ Below w.heap.size w w' := by
  obtain ⟨ad, ba, ca, rfl, ra, ia⟩ : ∃ ad ba ca, u = .slice ad (dn m).length ca ∧ (Row w ba (dn m) ∨ dn m = []) ∧ ∀ k : Nat, k < (dn m).length → ∀ w, (Instr.indexAt 59 (.slice ad (dn m).length ca) (.int .i64 k)).run Tryd.prog w = .ok (.pointer (some ⟨ba, k, none⟩)) w := by
    rcases ha with ⟨rfl, h⟩ | ⟨ba, ca, rfl, _, _, ra⟩
    · exact ⟨none, 0, 0, by rw [h]; rfl, .inr h, fun k hk => by rw [h] at hk; simp at hk⟩
    · exact ⟨_, ba, ca, rfl, .inl ra, fun k hk w => index_row ba _ ca k hk w⟩
  obtain ⟨bd, bb, cb, rfl, rb, ib⟩ : ∃ ad ba ca, v = .slice ad (dn n).length ca ∧ (Row w ba (dn n) ∨ dn n = []) ∧ ∀ k : Nat, k < (dn n).length → ∀ w, (Instr.indexAt 59 (.slice ad (dn n).length ca) (.int .i64 k)).run Tryd.prog w = .ok (.pointer (some ⟨ba, k, none⟩)) w := by
    rcases hb with ⟨rfl, h⟩ | ⟨ba, ca, rfl, _, _, ra⟩
    · exact ⟨none, 0, 0, by rw [h]; rfl, .inr h, fun k hk => by rw [h] at hk; simp at hk⟩
    · exact ⟨_, ba, ca, rfl, .inl ra, fun k hk w => index_row ba _ ca k hk w⟩
  by_cases c : (dn m).length = (dn n).length
  · have := bigCmp_same ad bd ba bb (dn m) (dn n) ca cb (dn_dg m) (dn_dg n) lm c w ra rb ia ib
    rw [dv_dn, dv_dn] at this
    exact this
  · exact bigCmp_len ad bd m n ca cb _ _ c lm ln ⟨fun h => len_lt h, fun h => len_lt h⟩ w
end Go.Proofs.YtpdiefmmenfpaaaDoor
namespace Go.Proofs.YtpdiefmmenfpaaaDoor
open Go.RowKit BG

/-- How great the numbers are that are spoken of. -/
def lid : Nat := 1000000 ^ 100
theorem lid_len {n : Nat} (h : n ≤ 8 * lid) : (dn n).length ≤ 400 := by
  refine Nat.le_trans (dn_len_le (k := 101) ?_) (by decide)
  unfold lid at h
  rw [Nat.pow_succ]
  have : 0 < 1000000 ^ 100 := Nat.pow_pos (by decide)
  omega
theorem add_dn {w : World} {u v : Value} {m n : Nat} (lm : m ≤ 8 * lid) (ln : n ≤ 8 * lid) (ha : Bg w u (dn m)) (hb : Bg w v (dn n)) : Calls Tryd.prog 69 #[u, v] w fun e w' => ∃ v, e = .returned v ∧ Bg w' v (dn (m + n)) ∧ Below w.heap.size w w' := by
  have := bigAdd_any (dn_dg m) (dn_dg n) (lid_len lm) (lid_len ln) ha hb
  rw [dv_dn, dv_dn] at this
  exact this
theorem sub_dn {w : World} {u v : Value} {m n : Nat} (lm : m ≤ 8 * lid) (h : n ≤ m) (ha : Bg w u (dn m)) (hb : Bg w v (dn n)) : Calls Tryd.prog 70 #[u, v] w fun e w' => ∃ v, e = .returned v ∧ Bg w' v (dn (m - n)) ∧ Below w.heap.size w w' := by
  have := bigSub_any (dn_dg m) (dn_dg n) (lid_len lm) (dn_len_mono h) (by rw [dv_dn, dv_dn]; exact h) ha hb
  rw [dv_dn, dv_dn] at this
  exact this
theorem cmp_dn {w : World} {u v : Value} {m n : Nat} (lm : m ≤ 8 * lid) (ln : n ≤ 8 * lid) (ha : Bg w u (dn m)) (hb : Bg w v (dn n)) : Calls Tryd.prog 52 #[u, v] w fun e w' => e = .returned (.int .i64 (cm m n)) ∧ Below w.heap.size w w' := bigCmp_any (lid_len lm) (lid_len ln) ha hb
theorem btw {a b c : World} (h : Below a.heap.size a b) (k : Below b.heap.size b c) : Below a.heap.size a c := h.trans (k.mono h.size)
theorem pow_step {a b k : Nat} (h : a < b * 2 ^ (k + 1)) : a < (b + b) * 2 ^ k := by
  have e : b * 2 ^ (k + 1) = (b + b) * 2 ^ k := by rw [Nat.pow_succ, ← Nat.two_mul, Nat.mul_comm (2 ^ k) 2, ← Nat.mul_assoc, Nat.mul_comm b 2]
  omega
theorem part_low {a b : Nat} (hb : 0 < b) (h : a % (b + b) < b) : a / b = a / (b + b) + a / (b + b) ∧ a % b = a % (b + b) := by
  have e := Nat.div_add_mod a (b + b)
  have e2 : a = b * (a / (b + b) + a / (b + b)) + a % (b + b) := by
    rw [Nat.add_mul] at e; rw [Nat.mul_add]; omega
  have h1 := Nat.div_mod_unique hb (a := a) (c := a % (b + b)) (d := a / (b + b) + a / (b + b))
  have := h1.2 ⟨by omega, h⟩
  exact ⟨this.1, this.2⟩
theorem part_high {a b : Nat} (hb : 0 < b) (h : b ≤ a % (b + b)) : a / b = a / (b + b) + a / (b + b) + 1 ∧ a % b = a % (b + b) - b := by
  have e := Nat.div_add_mod a (b + b)
  have hl := Nat.mod_lt a (show 0 < b + b by omega)
  have e2 : a = b * (a / (b + b) + a / (b + b) + 1) + (a % (b + b) - b) := by
    rw [Nat.add_mul] at e; rw [Nat.mul_add, Nat.mul_add]; omega
  have h1 := Nat.div_mod_unique hb (a := a) (c := a % (b + b) - b) (d := a / (b + b) + a / (b + b) + 1)
  have := h1.2 ⟨by omega, by omega⟩
  exact ⟨this.1, this.2⟩
theorem cm_lt {m n : Nat} (h : m < n) : cm m n = -1 := by unfold cm; rw [if_pos h]
theorem cm_ge {m n : Nat} (h : n ≤ m) : ¬ cm m n < 0 := by unfold cm; rw [if_neg (by omega)]; split <;> decide
set_option maxHeartbeats 4000000 in
theorem bigPart_any (a : Nat) (u : Value) (la : a ≤ 2 * lid) : ∀ (k b : Nat) (v : Value) (w : World), a < b * 2 ^ k → 0 < b → b ≤ 4 * lid → Bg w u (dn a) → Bg w v (dn b) →
    Calls Tryd.prog 50 #[u, v] w fun e w' => ∃ q r, e = .returned (.tuple #[q, r]) ∧ Bg w' q (dn (a / b)) ∧ Bg w' r (dn (a % b)) ∧ Below w.heap.size w w' := by
  intro k
  induction k with
  | zero =>
    intro b v w hk hb lb ha hv
    rw [Nat.pow_zero, Nat.mul_one] at hk
    have HC := hidb (cmp_dn (by omega) (by omega) ha hv)
    rw [cm_lt hk] at HC
    have HQ : Hid (a / b = 0 ∧ a % b = a) := ⟨Nat.div_eq_of_lt hk, Nat.mod_eq_of_lt hk⟩
    have HA := hidb ha
    clear ha hv hk la lb hb
    go_enter Tryd.func50, Tryd.ntmps50
    go_wp2_with fail
    refine HC.out.mono ?_
    rintro e w1 ⟨rfl, hB⟩
    go_wp2
    go_ret2
    exact ⟨_, _, rfl, by rw [HQ.out.1]; exact .inl ⟨rfl, dn_zero⟩, by rw [HQ.out.2]; exact HA.out.below hB, hB⟩
  | succ k ih =>
    intro b v w hk hb lb ha hv
    by_cases c : a < b
    · have HC := hidb (cmp_dn (by omega) (by omega) ha hv)
      rw [cm_lt c] at HC
      have HQ : Hid (a / b = 0 ∧ a % b = a) := ⟨Nat.div_eq_of_lt c, Nat.mod_eq_of_lt c⟩
      have HA := hidb ha
      clear ha hv hk la lb hb ih c
      go_enter Tryd.func50, Tryd.ntmps50
      go_wp2_with fail
      refine HC.out.mono ?_
      rintro e w1 ⟨rfl, hB⟩
      go_wp2
      go_ret2
      exact ⟨_, _, rfl, by rw [HQ.out.1]; exact .inl ⟨rfl, dn_zero⟩, by rw [HQ.out.2]; exact HA.out.below hB, hB⟩
    · have HC := hidb (cmp_dn (by omega) (by omega) ha hv)
      have hcm := cm_ge (m := a) (n := b) (by omega)
      have hb2 : b ≤ 2 * lid := by omega
      have H2 := hidb (fun w hw => add_dn (w := w) (u := v) (v := v) (m := b) (n := b) (by omega) (by omega) hw hw)
      have HI := hidb (fun v w ha hv => ih (b + b) v w (pow_step hk) (by omega) (by omega) ha hv)
      have hml := Nat.mod_lt a (show 0 < b + b by omega)
      have hdl : a / (b + b) ≤ 2 * lid := Nat.le_trans (Nat.div_le_self _ _) la
      have HD := hidb (fun w u hw => add_dn (w := w) (u := u) (v := u) (m := a / (b + b)) (n := a / (b + b)) (by omega) (by omega) hw hw)
      have HC2 := hidb (fun w u v hu hv => cmp_dn (w := w) (u := u) (v := v) (m := a % (b + b)) (n := b) (by omega) (by omega) hu hv)
      have H1 := hidb (fun w => bigOf_any 1 (by decide) w)
      have HA := hidb ha
      have HV := hidb hv
      by_cases d : a % (b + b) < b
      · have HP := hidb (part_low hb d)
        rw [cm_lt d] at HC2
        generalize cm a b = x at *
        clear ha hv hk ih
        go_enter Tryd.func50, Tryd.ntmps50
        go_wp2_with fail
        refine HC.out.mono ?_
        rintro e w1 ⟨rfl, hB⟩
        go_wp2_with fail
        refine (H2.out w1 (HV.out.below hB)).mono ?_
        rintro e w2 ⟨v2, rfl, hv2, hB2⟩
        replace hB := btw hB hB2
        go_wp2_with fail
        refine (HI.out v2 w2 (HA.out.below hB) hv2).mono ?_
        rintro e w3 ⟨q, r, rfl, hq, hr, hB3⟩
        replace hB := btw hB hB3
        go_wp2_with fail
        refine (HD.out w3 q hq).mono ?_
        rintro e w4 ⟨q2, rfl, hq2, hB4⟩
        replace hB := btw hB hB4
        replace hr := hr.below hB4
        go_wp2_with fail
        refine (HC2.out w4 r v hr (HV.out.below hB)).mono ?_
        rintro e w5 ⟨rfl, hB5⟩
        go_wp2
        go_ret2
        exact ⟨_, _, rfl, by rw [HP.out.1]; exact hq2.below hB5, by rw [HP.out.2]; exact hr.below hB5, btw hB hB5⟩
      · have HP := hidb (part_high hb (Nat.not_lt.1 d))
        have hcm2 := cm_ge (m := a % (b + b)) (n := b) (by omega)
        have HS := hidb (fun w u v hu hv => sub_dn (w := w) (u := u) (v := v) (m := a % (b + b)) (n := b) (by omega) (by omega) hu hv)
        have HF := hidb (fun w u v hu hv => add_dn (w := w) (u := u) (v := v) (m := a / (b + b) + a / (b + b)) (n := 1) (by omega) (by unfold lid; omega) hu hv)
        generalize cm a b = x at *
        generalize cm (a % (b + b)) b = y at *
        clear ha hv hk ih
        go_enter Tryd.func50, Tryd.ntmps50
        go_wp2_with fail
        refine HC.out.mono ?_
        rintro e w1 ⟨rfl, hB⟩
        go_wp2_with fail
        refine (H2.out w1 (HV.out.below hB)).mono ?_
        rintro e w2 ⟨v2, rfl, hv2, hB2⟩
        replace hB := btw hB hB2
        go_wp2_with fail
        refine (HI.out v2 w2 (HA.out.below hB) hv2).mono ?_
        rintro e w3 ⟨q, r, rfl, hq, hr, hB3⟩
        replace hB := btw hB hB3
        go_wp2_with fail
        refine (HD.out w3 q hq).mono ?_
        rintro e w4 ⟨q2, rfl, hq2, hB4⟩
        replace hB := btw hB hB4
        replace hr := hr.below hB4
        go_wp2_with fail
        refine (HC2.out w4 r v hr (HV.out.below hB)).mono ?_
        rintro e w5 ⟨rfl, hB5⟩
        replace hB := btw hB hB5
        replace hr := hr.below hB5
        replace hq2 := hq2.below hB5
        go_wp2_with fail
        refine (HS.out w5 r v hr (HV.out.below hB)).mono ?_
        rintro e w6 ⟨r2, rfl, hr2, hB6⟩
        replace hB := btw hB hB6
        replace hq2 := hq2.below hB6
        go_wp2_with fail
        refine (H1.out w6).mono ?_
        rintro e w7 ⟨o, rfl, ho, hB7⟩
        replace hB := btw hB hB7
        replace hq2 := hq2.below hB7
        replace hr2 := hr2.below hB7
        go_wp2_with fail
        refine (HF.out w7 q2 o hq2 ho).mono ?_
        rintro e w8 ⟨q3, rfl, hq3, hB8⟩
        go_wp2
        go_ret2
        exact ⟨_, _, rfl, by rw [HP.out.1]; exact hq3, by rw [HP.out.2]; exact hr2.below hB8, btw hB hB8⟩
end Go.Proofs.YtpdiefmmenfpaaaDoor
namespace Go.Proofs.YtpdiefmmenfpaaaDoor
open Go.RowKit BG

theorem part_dn {w : World} {u v : Value} {a b : Nat} (la : a ≤ 2 * lid) (lb : b ≤ 2 * lid) (hb : 0 < b) (ha : Bg w u (dn a)) (hv : Bg w v (dn b)) : Calls Tryd.prog 50 #[u, v] w fun e w' => ∃ q r, e = .returned (.tuple #[q, r]) ∧ Bg w' q (dn (a / b)) ∧ Bg w' r (dn (a % b)) ∧ Below w.heap.size w w' := by
  refine bigPart_any a u la a b v w ?_ hb (by omega) ha hv
  have h1 : a < 2 ^ a := Nat.lt_two_pow_self
  have h2 : 1 * 2 ^ a ≤ b * 2 ^ a := Nat.mul_le_mul_right _ hb
  omega
theorem Bg.form {w : World} {v : Value} {l : List Nat} (h : Bg w v l) : ∃ ad cap, v = .slice ad l.length cap := by
  rcases h with ⟨rfl, rfl⟩ | ⟨b, cap, rfl, _⟩
  · exact ⟨none, 0, rfl⟩
  · exact ⟨_, cap, rfl⟩
theorem gcd_step {m g : Nat} : Nat.gcd g (m % g) = Nat.gcd m g := by rw [Nat.gcd_comm g (m % g), ← Nat.gcd_rec, Nat.gcd_comm]
set_option maxRecDepth 4000 in
set_option maxHeartbeats 4000000 in
theorem bigGcd_any {w : World} {u v : Value} {a b : Nat} (la : a ≤ 2 * lid) (lb : b ≤ 2 * lid) (ha : Bg w u (dn a)) (hv : Bg w v (dn b)) : Calls Tryd.prog 49 #[u, v] w fun e w' => ∃ r, e = .returned r ∧ Bg w' r (dn (Nat.gcd a b)) ∧ Below w.heap.size w w' := by
  have HA := hidb ha
  have HV := hidb hv
  have LA := hidb la
  have LB := hidb lb
  obtain ⟨ad0, cp0, hv0⟩ := hv.form
  have HV0 := hidb hv0
  clear ha hv la lb hv0
  go_enter Tryd.func49, Tryd.ntmps49
  go_wp2
  go_loopg [0, 1] b (fun g s t wr => ∃ (m : Nat) (ad : Option Addr) (cap : Nat), Hid (m ≤ 2 * lid ∧ g ≤ 2 * lid ∧ Nat.gcd m g = Nat.gcd a b) ∧ t = .slice ad (dn g).length cap ∧ Hid (Bg wr s (dn m)) ∧ Hid (Bg wr (.slice ad (dn g).length cap) (dn g)) ∧ Below w.heap.size w wr)
  case atStart => exact ⟨a, ad0, cp0, ⟨LA.out, LB.out, rfl⟩, HV0.out, HA.out, by rw [← HV0.out]; exact HV.out, Below.refl _ _⟩
  case round =>
    obtain ⟨m, ad, cap, HG, rfl, HS, HT, hB⟩ := hrel
    rcases Nat.eq_zero_or_pos gk with h0 | h0
    · have hl : (dn gk).length = 0 := by rw [h0, dn_zero]; rfl
      have HE : Hid (m = Nat.gcd a b) := by have := HG.out.2.2; rw [h0, Nat.gcd_zero_right] at this; exact this
      rw [hl]
      go_wp2
      go_ret
      exact ⟨_, rfl, by rw [← HE.out]; exact HS.out, hB⟩
    · have hl : 0 < (dn gk).length := by
        rcases Nat.eq_zero_or_pos (dn gk).length with c | c
        · rw [dn_empty] at c; omega
        · exact c
      have HP := hidb (part_dn HG.out.1 HG.out.2.1 h0 HS.out HT.out)
      have hl' : (0 : Int) < ((dn gk).length : Int) := by omega
      have HM : Hid (m % gk < gk) := Nat.mod_lt _ h0
      go_wp2_with fail
      refine HP.out.mono ?_
      rintro e w2 ⟨q, r, rfl, hq, hr, hB2⟩
      have HR := hidb hr
      have HB2 := hidb hB2
      clear hq hr hB2
      go_wp2
      go_roundg (m % gk)
      case measure => exact HM.out
      case rel =>
        obtain ⟨ad', cap', hr'⟩ := HR.out.form
        exact ⟨gk, ad', cap', ⟨HG.out.2.1, by have := HM.out; have := HG.out.2.1; omega, by rw [gcd_step]; exact HG.out.2.2⟩, hr', HT.out.below HB2.out, by show Bg _ _ _; rw [← hr']; exact HR.out, btw hB HB2.out⟩
theorem dv_drop {l : List Nat} {j : Nat} (h : j < l.length) : dv (l.drop j) = l[j] + 1000000 * dv (l.drop (j + 1)) := by
  rw [List.drop_eq_getElem_cons h]; rfl
theorem dv_drop_le (l : List Nat) (j : Nat) : 1000000 ^ j * dv (l.drop j) ≤ dv l := by
  by_cases h : j ≤ l.length
  · have := dv_append (l.take j) (l.drop j)
    rw [List.take_append_drop, List.length_take, Nat.min_eq_left h] at this
    omega
  · rw [List.drop_of_length_le (by omega)]; simp [dv]
set_option maxRecDepth 4000 in
set_option maxHeartbeats 4000000 in
theorem bigInt_gen (ad : Option Addr) (ba : Nat) (a : List Nat) (ca : Nat) (hda : Dg a) (la : a.length ≤ 400) (hs : dv a ≤ 4611686018427387904) (w : World) (ra : Row w ba a ∨ a = [])
    (ia : ∀ k : Nat, k < a.length → ∀ w, (Instr.indexAt 59 (.slice ad a.length ca) (.int .i64 k)).run Tryd.prog w = .ok (.pointer (some ⟨ba, k, none⟩)) w) :
    Calls Tryd.prog 53 #[.slice ad a.length ca] w fun e w' => e = .returned (.tuple #[.int .i64 (dv a), .bool true]) ∧ w' = w := by
  have HA := hidb hda
  have RA := hidb ra
  have IA := hidb ia
  have HS := hidb hs
  clear ia ra hda hs
  go_enter Tryd.func53, Tryd.ntmps53
  go_wp2
  go_loop [4, 5] (fun s t => ∃ k n : Nat, k ≤ a.length ∧ Hid (n = dv (a.drop k)) ∧ s = .int .i64 n ∧ t = .int .i64 ((k : Int) - 1)) (fun _ t => (intOf t + 1).toNat)
  case atStart => exact ⟨a.length, 0, Nat.le_refl _, by show 0 = dv (a.drop a.length); rw [List.drop_of_length_le (Nat.le_refl _)]; rfl, rfl, rfl⟩
  case round =>
    obtain ⟨k, n, hk, HD, rfl, rfl⟩ := hrel
    rcases Nat.eq_zero_or_pos k with rfl | hp
    · have hn : n = dv a := by simpa using HD.out
      have hn2 : (n : Int) ≤ 4611686018427387904 := by have := HS.out; omega
      have HN := hidb hn
      clear hn HD
      go_wp2
      go_ret2
      exact ⟨by rw [← HN.out]; rfl, rfl⟩
    · obtain ⟨j, rfl⟩ : ∃ j, k = j + 1 := ⟨k - 1, by omega⟩
      have h1 : j < a.length := by omega
      have na : a ≠ [] := by intro e; rw [e] at h1; simp at h1
      have cella := (RA.out.resolve_right na).1 j h1
      have ixa := IA.out j h1
      have xa := HA.out.get h1
      have HD2 : Hid (a[j] + 1000000 * n = dv (a.drop j)) := by show _ = _; rw [dv_drop h1, ← HD.out]
      have hb : n ≤ 4611686018427 := by
        have h2 := dv_drop_le a (j + 1)
        rw [← HD.out, Nat.pow_succ] at h2
        have h3 : 1 ≤ 1000000 ^ j := Nat.pow_pos (by decide)
        have h4 : 1 * 1000000 * n ≤ 1000000 ^ j * 1000000 * n := Nat.mul_le_mul_right _ (Nat.mul_le_mul_right _ h3)
        have := HS.out
        omega
      have ej : ((j + 1 : Nat) : Int) - 1 = (j : Int) := by omega
      have hj0 : (0 : Int) ≤ (j : Int) := by omega
      rw [ej]
      clear HD na
      generalize a[j] = x at *
      go_wp2
      go_round
      case rel => exact ⟨j, x + 1000000 * n, by omega, HD2, by go_num, by go_num⟩
      case measure => simp [intOf]
theorem bigInt_any {w : World} {u : Value} {n : Nat} (hs : n ≤ 4611686018427387904) (ha : Bg w u (dn n)) : Calls Tryd.prog 53 #[u] w fun e w' => e = .returned (.tuple #[.int .i64 n, .bool true]) ∧ w' = w := by
  have hl : (dn n).length ≤ 400 := Nat.le_trans (dn_len_le (k := 4) (by omega)) (by decide)
  have hd : dv (dn n) ≤ 4611686018427387904 := by rw [dv_dn]; exact hs
  rcases ha with ⟨rfl, h⟩ | ⟨ba, ca, rfl, _, _, ra⟩
  · have := bigInt_gen none 0 (dn n) 0 (dn_dg n) hl hd w (.inr h) (fun k hk => by rw [h] at hk; simp at hk)
    rw [dv_dn, h] at this
    exact this
  · have := bigInt_gen (some ⟨ba, 0, none⟩) ba (dn n) ca (dn_dg n) hl hd w (.inl ra) (fun k hk w => index_row ba _ ca k hk w)
    rw [dv_dn] at this
    exact this
end Go.Proofs.YtpdiefmmenfpaaaDoor
namespace Go.Proofs.YtpdiefmmenfpaaaDoor
open Go.RowKit BG

theorem dv_set {l : List Nat} {j d : Nat} (h : j < l.length) : dv (l.set j d) + 1000000 ^ j * l[j] = dv l + 1000000 ^ j * d := by
  induction l generalizing j with
  | nil => simp at h
  | cons x l ih =>
    cases j with
    | zero => simp [dv]; omega
    | succ j =>
      have hj : j < l.length := by simpa using h
      have := ih hj
      simp only [List.set_cons_succ, dv, List.getElem_cons_succ, Nat.pow_succ]
      have e1 : 1000000 ^ j * 1000000 * l[j] = 1000000 * (1000000 ^ j * l[j]) := by rw [Nat.mul_comm (1000000 ^ j) 1000000, Nat.mul_assoc]
      have e2 : 1000000 ^ j * 1000000 * d = 1000000 * (1000000 ^ j * d) := by rw [Nat.mul_comm (1000000 ^ j) 1000000, Nat.mul_assoc]
      rw [e1, e2]
      omega
theorem dg_set {l : List Nat} {j d : Nat} (h : Dg l) (hd : d < 1000000) : Dg (l.set j d) := by
  intro x hx
  rcases List.mem_or_eq_of_mem_set hx with hx | rfl
  · exact h x hx
  · exact hd
theorem vs_set (l : List Nat) (j d : Nat) : (vs l).set j (.int .i64 ((d : Nat) : Int)) = vs (l.set j d) := by simp [vs, List.map_set]
theorem dv_replicate (n : Nat) : dv (List.replicate n 0) = 0 := by
  induction n with
  | zero => rfl
  | succ n ih => rw [List.replicate_succ]; simp [dv, ih]
/-- What is true of the row between two rounds, and within one. -/
structure MO (a b o : List Nat) (i : Nat) : Prop where
  len : o.length = a.length + b.length
  dg : Dg o
  sum : dv o = dv (a.take i) * dv b
  zero : ∀ j, (h : j < o.length) → i + b.length ≤ j → o[j] = 0
structure MI (a b o : List Nat) (i k c : Nat) (x : Nat) : Prop where
  len : o.length = a.length + b.length
  dg : Dg o
  sum : dv o + 1000000 ^ (i + k) * c = dv (a.take i) * dv b + 1000000 ^ i * (x * dv (b.take k))
  zero : ∀ j, (h : j < o.length) → i + b.length ≤ j → o[j] = 0
theorem mi_start {a b o : List Nat} {i x : Nat} (h : MO a b o i) : MI a b o i 0 0 x := ⟨h.len, h.dg, by rw [h.sum]; simp [dv], h.zero⟩
theorem mi_step {a b o : List Nat} {i k c x y : Nat} (h : MI a b o i k c x) (hk : k < b.length) (hy : b[k] = y) (hj : i + k < o.length) : MI a b (o.set (i + k) ((c + o[i + k] + x * y) % 1000000)) i (k + 1) ((c + o[i + k] + x * y) / 1000000) x := by
  refine ⟨by simpa using h.len, dg_set h.dg (Nat.mod_lt _ (by decide)), ?_, ?_⟩
  · have e1 := dv_set (l := o) (j := i + k) (d := (c + o[i + k] + x * y) % 1000000) hj
    have e2 := h.sum
    have e3 : dv (b.take (k + 1)) = dv (b.take k) + 1000000 ^ k * y := by
      rw [take_dv]; congr 2; simp [List.getD, hk, hy]
    rw [e3, Nat.mul_add, Nat.mul_add]
    have e4 : 1000000 ^ i * (x * (1000000 ^ k * y)) = 1000000 ^ (i + k) * (x * y) := by
      rw [Nat.pow_add, Nat.mul_left_comm x, ← Nat.mul_assoc (1000000 ^ i)]
    rw [e4]
    generalize o[i + k] = z at *
    have e5 : 1000000 ^ (i + k) * ((c + z + x * y) % 1000000) + 1000000 ^ (i + (k + 1)) * ((c + z + x * y) / 1000000) = 1000000 ^ (i + k) * (c + z + x * y) := by
      rw [← Nat.add_assoc, Nat.pow_succ, Nat.mul_assoc, ← Nat.mul_add]; congr 1; omega
    rw [Nat.mul_add, Nat.mul_add] at e5
    omega
  · intro j hj' hjb
    have hjo : j < o.length := by simpa using hj'
    rw [List.getElem_set_ne (by omega)]
    exact h.zero j hjo hjb
theorem mi_end {a b o : List Nat} {i c x : Nat} (h : MI a b o i b.length c x) (hi : i < a.length) (hx : a[i] = x) (hc : c < 1000000) (hj : i + b.length < o.length) : MO a b (o.set (i + b.length) c) (i + 1) := by
  refine ⟨by simpa using h.len, dg_set h.dg hc, ?_, ?_⟩
  · have e1 := dv_set (l := o) (j := i + b.length) (d := c) hj
    have e2 := h.sum
    rw [h.zero _ hj (Nat.le_refl _)] at e1
    rw [List.take_of_length_le (Nat.le_refl _)] at e2
    have e3 : dv (a.take (i + 1)) = dv (a.take i) + 1000000 ^ i * x := by
      rw [take_dv]; congr 2; simp [List.getD, hi, hx]
    rw [e3, Nat.add_mul, Nat.mul_assoc]
    omega
  · intro j hj' hjb
    have hjo : j < o.length := by simpa using hj'
    rw [List.getElem_set_ne (by omega)]
    exact h.zero j hjo (by omega)
theorem mul_le_p {x y : Nat} (hx : x < 1000000) (hy : y < 1000000) : x * y ≤ 999998000001 := by
  have : x * y ≤ 999999 * 999999 := Nat.mul_le_mul (by omega) (by omega)
  omega
end Go.Proofs.YtpdiefmmenfpaaaDoor
