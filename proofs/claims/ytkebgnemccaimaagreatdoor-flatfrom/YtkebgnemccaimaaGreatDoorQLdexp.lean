/-
  math.Ldexp of a finite number and a modest power: one answer, whatever the memory.
-/
import Derived.Test.YtkebgnemccaimaaGreatDoorQFrexp
import Derived.Test.YtkebgnemccaimaaGreatDoorQJ1
namespace Go.Proofs.YtkebgnemccaimaaGreatDoor
open Go.RowKit FB

theorem call_fromI (b : Int) (w : World) : (callFunc 127 #[.int .u64 b]).run Tryz.prog w = .ok (.value (.float .f64 b.toNat)) w :=
  (@run_callFunc_extern Tryz.prog 127 _ Extern.MathFloatBits.float64frombits Tryz.func127 (by kernel_rfl) (by kernel_rfl) (by kernel_rfl) (by kernel_rfl) _ w).trans rfl

theorem copysign_ex (p : Nat) : ∃ q, ∀ w, Calls Tryz.prog 139 #[.float .f64 0, .float .f64 p] w fun e w' => e = .returned (.float .f64 q) ∧ w' = w := by
  refine ⟨(bits .or .u64 (bits .andNot .u64 0 9223372036854775808) (bits .and .u64 (p : Int) 9223372036854775808)).toNat, fun w => ?_⟩
  have h1 := call_bits
  have h2 := call_fromI
  go_enter Tryz.func139, Tryz.ntmps139
  go_wp2
  go_ret
  exact ⟨rfl, rfl⟩

theorem normalize_ex (p : Nat) (hp : p < 18446744073709551616) (hn : Num p) : ∃ y k, (k = 0 ∨ k = -52) ∧ y < 18446744073709551616 ∧ ∀ w, Calls Tryz.prog 137 #[.float .f64 p] w fun e w' => e = .returned (.tuple #[.float .f64 y, .int .i64 k]) ∧ w' = w := by
  cases hc : (FloatKind.f64.format.order (absB p) 4503599627370496 == some Ordering.lt) with
  | true =>
    have hm := fun w => hmul (mul_num hn (show Num 4841369599423283200 from ⟨_, _, _, read_p52⟩)) w
    have hlt : FM p 4841369599423283200 < 18446744073709551616 := Ieee.Format.mul_lt Ieee.double (mul_num hn (show Num 4841369599423283200 from ⟨_, _, _, read_p52⟩))
    refine ⟨FM p 4841369599423283200, -52, .inr rfl, hlt, fun w => ?_⟩
    have hA := hid (abs_any p hp)
    go_enter Tryz.func137, Tryz.ntmps137
    go_wp2_with (go_at_call 102; refine (hA.out _).mono ?_; rintro e w' ⟨rfl, rfl⟩)
    go_ret2
    exact ⟨rfl, rfl⟩
  | false =>
    refine ⟨p, 0, .inl rfl, hp, fun w => ?_⟩
    have hA := hid (abs_any p hp)
    go_enter Tryz.func137, Tryz.ntmps137
    go_wp2_with (go_at_call 102; refine (hA.out _).mono ?_; rintro e w' ⟨rfl, rfl⟩)
    go_ret2
    exact ⟨rfl, rfl⟩

theorem mask_all (y : Nat) (h : y < 18446744073709551616) : bits .andNot .u64 (y : Int) 9218868437227405312 = ((y / 9223372036854775808 * 9223372036854775808 + y % 4503599627370496 : Nat) : Int) := by
  have h' := u64_andNot (y : Int) 9218868437227405312 (by omega) (by omega) (by omega) (by omega)
  rw [h']
  congr 1
  show y &&& 9227875636482146303 = y / 9223372036854775808 * 9223372036854775808 + y % 4503599627370496
  apply Nat.eq_of_testBit_eq
  intro j
  have hq : y / 9223372036854775808 = 0 ∨ y / 9223372036854775808 = 1 := by omega
  have hfr : y % 4503599627370496 < 2 ^ 52 := Nat.mod_lt _ (by decide)
  rw [Nat.testBit_and, show (9227875636482146303 : Nat) = 2 ^ 63 + (2 ^ 52 - 1) by decide]
  have hmod : ∀ i, (y % 4503599627370496).testBit i = (decide (i < 52) && y.testBit i) := fun i => by
    rw [show y % 4503599627370496 = y % 2 ^ 52 from rfl, Nat.testBit_mod_two_pow]
  have h52 : ∀ i, 52 ≤ i → (y % 4503599627370496).testBit i = false := fun i hi => by rw [hmod i]; simp; omega
  rcases Nat.lt_trichotomy j 63 with hj | hj | hj
  · rw [Nat.testBit_two_pow_add_gt hj, Nat.testBit_two_pow_sub_one]
    rcases hq with hq | hq
    · rw [hq, Nat.zero_mul, Nat.zero_add, hmod, Bool.and_comm]
    · rw [hq, Nat.one_mul, show (9223372036854775808 : Nat) = 2 ^ 63 by decide, Nat.testBit_two_pow_add_gt hj, hmod, Bool.and_comm]
  · subst hj
    rw [Nat.testBit_two_pow_add_eq, Nat.testBit_two_pow_sub_one]
    have hy63 : y.testBit 63 = decide (y / 9223372036854775808 = 1) := by
      rw [Nat.testBit_eq_decide_div_mod_eq, show (2 : Nat) ^ 63 = 9223372036854775808 by decide]
      rcases hq with hq | hq <;> rw [hq] <;> rfl
    rw [hy63]
    rcases hq with hq | hq
    · rw [hq, Nat.zero_mul, Nat.zero_add, h52 63 (by decide)]; rfl
    · rw [hq, Nat.one_mul, show (9223372036854775808 : Nat) = 2 ^ 63 by decide, Nat.testBit_two_pow_add_eq, h52 63 (by decide)]; rfl
  · have e1 : y.testBit j = false := Nat.testBit_lt_two_pow (Nat.lt_of_lt_of_le h (by rw [show (18446744073709551616 : Nat) = 2 ^ 64 by decide]; exact Nat.pow_le_pow_right (by decide) (by omega)))
    rw [e1]
    have e2 : (y / 9223372036854775808 * 9223372036854775808 + y % 4503599627370496).testBit j = false := by
      refine Nat.testBit_lt_two_pow (Nat.lt_of_lt_of_le (show _ < 2 ^ 64 from ?_) (Nat.pow_le_pow_right (by decide) (by omega)))
      rw [show (2 : Nat) ^ 52 = 4503599627370496 by decide] at hfr
      rw [show (2 : Nat) ^ 64 = 18446744073709551616 by decide]
      omega
    rw [e2]; rfl
theorem set_field (y f : Nat) (h : y < 18446744073709551616) (hf : f < 2048) : bits .or .u64 ((y / 9223372036854775808 * 9223372036854775808 + y % 4503599627370496 : Nat) : Int) ((f * 4503599627370496 : Nat) : Int) = ((y / 9223372036854775808 * 9223372036854775808 + (f * 4503599627370496 + y % 4503599627370496) : Nat) : Int) := by
  have hfr : y % 4503599627370496 < 4503599627370496 := Nat.mod_lt _ (by decide)
  have h' := u64_or ((y / 9223372036854775808 * 9223372036854775808 + y % 4503599627370496 : Nat) : Int) ((f * 4503599627370496 : Nat) : Int) (by omega) (by omega) (by omega) (by omega)
  rw [h']
  congr 1
  rw [Int.toNat_natCast, Int.toNat_natCast]
  have e1 : y / 9223372036854775808 * 9223372036854775808 + y % 4503599627370496 = 2 ^ 63 * (y / 9223372036854775808) ||| y % 4503599627370496 := by
    rw [← Nat.two_pow_add_eq_or_of_lt (by omega), Nat.mul_comm]
  have e2 : f * 4503599627370496 + y % 4503599627370496 = 2 ^ 52 * f ||| y % 4503599627370496 := by
    rw [← Nat.two_pow_add_eq_or_of_lt hfr, Nat.mul_comm]
  have e3 : y / 9223372036854775808 * 9223372036854775808 + (f * 4503599627370496 + y % 4503599627370496) = 2 ^ 63 * (y / 9223372036854775808) ||| (f * 4503599627370496 + y % 4503599627370496) := by
    rw [← Nat.two_pow_add_eq_or_of_lt (by omega), Nat.mul_comm]
  rw [e3, e2, e1, show f * 4503599627370496 = 2 ^ 52 * f by rw [Nat.mul_comm]]
  rw [Nat.or_assoc, Nat.or_comm (y % 4503599627370496)]

theorem i64_and2047 (n : Int) : bits .and .i64 n 2047 = n % 2048 := by
  have h127 : (BitVec.ofInt 64 2047).toNat = 2 ^ 11 - 1 := by decide
  have key : (BitVec.ofInt 64 n &&& BitVec.ofInt 64 2047).toNat = (n % ((2 ^ 64 : Nat) : Int)).toNat % 2 ^ 11 := by
    rw [BitVec.toNat_and, BitVec.toNat_ofInt, h127, Nat.and_two_pow_sub_one_eq_mod]
  show IntKind.i64.wrap ((BitVec.ofInt 64 n &&& BitVec.ofInt 64 2047).toNat : Nat) = n % 2048
  rw [key, IntKind.wrap_i64]
  omega
theorem num_of_word {x : Nat} (h : x % 9223372036854775808 < 9218868437227405312) : Num x := by
  unfold Num
  rw [read_eq]
  by_cases c1 : x % 9223372036854775808 < 4503599627370496
  · rw [if_pos c1]; exact ⟨_, _, _, rfl⟩
  · rw [if_neg c1, if_pos h]; exact ⟨_, _, _, rfl⟩
theorem field_ex (y : Nat) (hy : y < 18446744073709551616) (F : Int) (h1 : 1 ≤ F) (h2 : F ≤ 2046) : ∃ X : Nat, Num X ∧ bits .or .u64 ((y : Int) / 9223372036854775808 * 9223372036854775808 + (y : Int) % 4503599627370496) (F * 4503599627370496) = (X : Int) := by
  obtain ⟨f, rfl⟩ : ∃ f : Nat, F = f := ⟨F.toNat, by omega⟩
  have h := set_field y f hy (by omega)
  have e1 : ((y / 9223372036854775808 * 9223372036854775808 + y % 4503599627370496 : Nat) : Int) = (y : Int) / 9223372036854775808 * 9223372036854775808 + (y : Int) % 4503599627370496 := by omega
  have e2 : ((f * 4503599627370496 : Nat) : Int) = (f : Int) * 4503599627370496 := Int.natCast_mul f 4503599627370496
  rw [e1, e2] at h
  refine ⟨_, num_of_word ?_, h⟩
  have hfr : y % 4503599627370496 < 4503599627370496 := Nat.mod_lt _ (by decide)
  have hq : y / 9223372036854775808 = 0 ∨ y / 9223372036854775808 = 1 := by omega
  rcases hq with hq | hq <;> rw [hq] <;> omega

set_option maxHeartbeats 1000000 in
theorem ldexp_zero (p : Nat) (n : Int) (hz : (FloatKind.f64.format.order p 0 == some Ordering.eq) = true) (w : World) : Calls Tryz.prog 134 #[.float .f64 p, .int .i64 n] w fun e w' => e = .returned (.float .f64 p) ∧ w' = w := by
  go_enter Tryz.func134, Tryz.ntmps134
  go_wp2
  go_ret
  exact ⟨rfl, rfl⟩

set_option maxHeartbeats 2000000 in
set_option maxRecDepth 100000 in
theorem ldexp_ex (p : Nat) (hp : p < 18446744073709551616) (hn : Num p) (n : Int) (hn1 : -2000000 ≤ n) (hn2 : n ≤ 2000000) : ∃ q, ∀ w, Calls Tryz.prog 134 #[.float .f64 p, .int .i64 n] w fun e w' => e = .returned (.float .f64 q) ∧ w' = w := by
  cases hz : (FloatKind.f64.format.order p 0 == some Ordering.eq) with
  | true => exact ⟨p, fun w => ldexp_zero p n hz w⟩
  | false =>
    have hnn : (FloatKind.f64.format.order p p != some Ordering.eq) = false := by show (Ieee.double.order p p != _) = _; rw [order_self hn]; rfl
    have hinf : (FloatKind.f64.format.order (absB p) maxF == some Ordering.gt) = false := by
      show (Ieee.double.order (absB p) maxF == _) = _
      have := abs_not_gt hn
      simpa using this
    have HI := hid (fun w => isInf_any p hp false hinf w)
    have HJ := hid (fun w => isNaN_any p false hnn w)
    obtain ⟨y, k, hk, hy, hN⟩ := normalize_ex p hp hn
    have HN := hid hN
    obtain ⟨qc, hC⟩ := copysign_ex y
    have HC := hid hC
    have hb := call_bits y
    have hm3 := i64_and2047 ((y : Int) / 4503599627370496)
    have hk1 : -52 ≤ k := by omega
    have hk2 : k ≤ 0 := by omega
    have hq0 : 0 ≤ (y : Int) / 4503599627370496 := by omega
    have hq1 : (y : Int) / 4503599627370496 < 4096 := by omega
    have hr0 : 0 ≤ (y : Int) / 4503599627370496 % 2048 := by omega
    have hr1 : (y : Int) / 4503599627370496 % 2048 < 2048 := by omega
    clear hk hN hC hnn hinf
    by_cases hE1 : n + k + ((y : Int) / 4503599627370496 % 2048 - 1023) < -1075
    · refine ⟨qc, fun w => ?_⟩
      go_enter Tryz.func134, Tryz.ntmps134
      go_wp2_with fail
      refine (HI.out _).mono ?_
      rintro e w1 ⟨rfl, rfl⟩
      go_wp2_with fail
      refine (HJ.out _).mono ?_
      rintro e w2 ⟨rfl, rfl⟩
      go_wp2_with fail
      refine (HN.out _).mono ?_
      rintro e w3 ⟨rfl, rfl⟩
      go_wp2_with fail
      refine (HC.out _).mono ?_
      rintro e w4 ⟨rfl, rfl⟩
      go_wp2
      go_ret
      exact ⟨rfl, rfl⟩
    by_cases hE2 : 1023 < n + k + ((y : Int) / 4503599627370496 % 2048 - 1023)
    · cases hny : (FloatKind.f64.format.order y 0 == some Ordering.lt) with
      | true =>
        refine ⟨18442240474082181120, fun w => ?_⟩
        go_enter Tryz.func134, Tryz.ntmps134
        go_wp2_with fail
        refine (HI.out _).mono ?_
        rintro e w1 ⟨rfl, rfl⟩
        go_wp2_with fail
        refine (HJ.out _).mono ?_
        rintro e w2 ⟨rfl, rfl⟩
        go_wp2_with fail
        refine (HN.out _).mono ?_
        rintro e w3 ⟨rfl, rfl⟩
        go_wp2_with (go_at_call 109; refine (inf_neg _).mono ?_; rintro e w4 ⟨rfl, rfl⟩)
        go_ret
        exact ⟨rfl, rfl⟩
      | false =>
        refine ⟨9218868437227405312, fun w => ?_⟩
        go_enter Tryz.func134, Tryz.ntmps134
        go_wp2_with fail
        refine (HI.out _).mono ?_
        rintro e w1 ⟨rfl, rfl⟩
        go_wp2_with fail
        refine (HJ.out _).mono ?_
        rintro e w2 ⟨rfl, rfl⟩
        go_wp2_with fail
        refine (HN.out _).mono ?_
        rintro e w3 ⟨rfl, rfl⟩
        go_wp2_with (go_at_call 109; refine (inf_pos _).mono ?_; rintro e w4 ⟨rfl, rfl⟩)
        go_ret
        exact ⟨rfl, rfl⟩
    have hmask := mask_all y hy
    by_cases hE3 : n + k + ((y : Int) / 4503599627370496 % 2048 - 1023) < -1022
    · obtain ⟨X, hX, hXe⟩ := field_ex y hy (n + k + ((y : Int) / 4503599627370496 % 2048 - 1023) + 53 + 1023) (by omega) (by omega)
      have hmm := fun w => hmul (mul_num (show Num 4368491638549381120 from num_of_word (by decide)) hX) w
      have hff := call_from X
      refine ⟨FM 4368491638549381120 X, fun w => ?_⟩
      go_enter Tryz.func134, Tryz.ntmps134
      go_wp2_with fail
      refine (HI.out _).mono ?_
      rintro e w1 ⟨rfl, rfl⟩
      go_wp2_with fail
      refine (HJ.out _).mono ?_
      rintro e w2 ⟨rfl, rfl⟩
      go_wp2_with fail
      refine (HN.out _).mono ?_
      rintro e w3 ⟨rfl, rfl⟩
      go_wp2
      go_ret
      exact ⟨rfl, rfl⟩
    · obtain ⟨X, hX, hXe⟩ := field_ex y hy (n + k + ((y : Int) / 4503599627370496 % 2048 - 1023) + 1023) (by omega) (by omega)
      have hmm := fun w => hmul (mul_num (show Num 4607182418800017408 from num_of_word (by decide)) hX) w
      have hff := call_from X
      refine ⟨FM 4607182418800017408 X, fun w => ?_⟩
      go_enter Tryz.func134, Tryz.ntmps134
      go_wp2_with fail
      refine (HI.out _).mono ?_
      rintro e w1 ⟨rfl, rfl⟩
      go_wp2_with fail
      refine (HJ.out _).mono ?_
      rintro e w2 ⟨rfl, rfl⟩
      go_wp2_with fail
      refine (HN.out _).mono ?_
      rintro e w3 ⟨rfl, rfl⟩
      go_wp2
      go_ret
      exact ⟨rfl, rfl⟩

theorem ldexp_any (p : Nat) (hp : p < 18446744073709551616) (hn : Num p) (n : Int) (hn1 : -2000000 ≤ n) (hn2 : n ≤ 2000000) : ∃ q, ∀ w, Calls Tryz.prog 119 #[.float .f64 p, .int .i64 n] w fun e w' => e = .returned (.float .f64 q) ∧ w' = w := by
  obtain ⟨q, h⟩ := ldexp_ex p hp hn n hn1 hn2
  refine ⟨q, fun w => ?_⟩
  have HQ := hid h
  clear h
  go_enter Tryz.func119, Tryz.ntmps119
  go_wp2_with (go_at_call 134; refine (HQ.out _).mono ?_; rintro e w' ⟨rfl, rfl⟩)
  go_ret
  exact ⟨rfl, rfl⟩
end Go.Proofs.YtkebgnemccaimaaGreatDoor
