/-
  math.Ldexp of a finite number and a modest power: one answer, whatever the memory.; grain.Exp and mercatorref1.ExpOf.; mercatorref1.ExpOf; both powers, of every number.
-/
import Derived.Test.YtinopkmcddjgdaaGreatDoorQJ3
import Derived.Test.YtinopkmcddjgdaaGreatDoorQJ1
import Derived.Test.YtinopkmcddjgdaaGreatDoorQJ2
namespace Go.Proofs.YtinopkmcddjgdaaGreatDoor
open Go.RowKit FB

theorem call_fromI (b : Int) (w : World) : (callFunc 96 #[.int .u64 b]).run Tryz.prog w = .ok (.value (.float .f64 b.toNat)) w :=
  (@run_callFunc_extern Tryz.prog 96 _ Extern.MathFloatBits.float64frombits Tryz.func96 (by kernel_rfl) (by kernel_rfl) (by kernel_rfl) (by kernel_rfl) _ w).trans rfl

theorem copysign_ex (p : Nat) : ∃ q, ∀ w, Calls Tryz.prog 110 #[.float .f64 0, .float .f64 p] w fun e w' => e = .returned (.float .f64 q) ∧ w' = w := by
  refine ⟨(bits .or .u64 (bits .andNot .u64 0 9223372036854775808) (bits .and .u64 (p : Int) 9223372036854775808)).toNat, fun w => ?_⟩
  have h1 := call_bits
  have h2 := call_fromI
  go_enter Tryz.func110, Tryz.ntmps110
  go_wp2
  go_ret
  exact ⟨rfl, rfl⟩

theorem normalize_ex (p : Nat) (hp : p < 18446744073709551616) (hn : Num p) : ∃ y k, (k = 0 ∨ k = -52) ∧ y < 18446744073709551616 ∧ ∀ w, Calls Tryz.prog 109 #[.float .f64 p] w fun e w' => e = .returned (.tuple #[.float .f64 y, .int .i64 k]) ∧ w' = w := by
  cases hc : (FloatKind.f64.format.order (absB p) 4503599627370496 == some Ordering.lt) with
  | true =>
    have hm := fun w => hmul (mul_num hn (show Num 4841369599423283200 from ⟨_, _, _, read_p52⟩)) w
    have hlt : FM p 4841369599423283200 < 18446744073709551616 := Ieee.Format.mul_lt Ieee.double (mul_num hn (show Num 4841369599423283200 from ⟨_, _, _, read_p52⟩))
    refine ⟨FM p 4841369599423283200, -52, .inr rfl, hlt, fun w => ?_⟩
    have hA := hid (abs_any p hp)
    go_enter Tryz.func109, Tryz.ntmps109
    go_wp2_with (go_at_call 68; refine (hA.out _).mono ?_; rintro e w' ⟨rfl, rfl⟩)
    go_ret2
    exact ⟨rfl, rfl⟩
  | false =>
    refine ⟨p, 0, .inl rfl, hp, fun w => ?_⟩
    have hA := hid (abs_any p hp)
    go_enter Tryz.func109, Tryz.ntmps109
    go_wp2_with (go_at_call 68; refine (hA.out _).mono ?_; rintro e w' ⟨rfl, rfl⟩)
    go_ret2
    exact ⟨rfl, rfl⟩

theorem mask_all (y : Nat) (h : y < 18446744073709551616) : bits .andNot .u64 (y : Int) 9218868437227405312 = ((y / 9223372036854775808 * 9223372036854775808 + y % 4503599627370496 : Nat) : Int) := by
  have h' := u64_andNot (y : Int) 9218868437227405312 (by omega) (by omega) (by omega) (by omega)
  rw [h']
  congr 1
  show y &&& 9227875636482146303 = y / 9223372036854775808 * 9223372036854775808 + y % 4503599627370496
  apply Nat.eq_of_testBit_eq
  intro j
  have hq : y / 9223372036854775808 = 0 ∨ y / 9223372036854775808 = 1 := by omega
  have hfr : y % 4503599627370496 < 2 ^ 52 := Nat.mod_lt _ (by decide)
  rw [Nat.testBit_and, show (9227875636482146303 : Nat) = 2 ^ 63 + (2 ^ 52 - 1) by decide]
  have hmod : ∀ i, (y % 4503599627370496).testBit i = (decide (i < 52) && y.testBit i) := fun i => by
    rw [show y % 4503599627370496 = y % 2 ^ 52 from rfl, Nat.testBit_mod_two_pow]
  have h52 : ∀ i, 52 ≤ i → (y % 4503599627370496).testBit i = false := fun i hi => by rw [hmod i]; simp; omega
  rcases Nat.lt_trichotomy j 63 with hj | hj | hj
  · rw [Nat.testBit_two_pow_add_gt hj, Nat.testBit_two_pow_sub_one]
    rcases hq with hq | hq
    · rw [hq, Nat.zero_mul, Nat.zero_add, hmod, Bool.and_comm]
    · rw [hq, Nat.one_mul, show (9223372036854775808 : Nat) = 2 ^ 63 by decide, Nat.testBit_two_pow_add_gt hj, hmod, Bool.and_comm]
  · subst hj
    rw [Nat.testBit_two_pow_add_eq, Nat.testBit_two_pow_sub_one]
    have hy63 : y.testBit 63 = decide (y / 9223372036854775808 = 1) := by
      rw [Nat.testBit_eq_decide_div_mod_eq, show (2 : Nat) ^ 63 = 9223372036854775808 by decide]
      rcases hq with hq | hq <;> rw [hq] <;> rfl
    rw [hy63]
    rcases hq with hq | hq
    · rw [hq, Nat.zero_mul, Nat.zero_add, h52 63 (by decide)]; rfl
    · rw [hq, Nat.one_mul, show (9223372036854775808 : Nat) = 2 ^ 63 by decide, Nat.testBit_two_pow_add_eq, h52 63 (by decide)]; rfl
  · have e1 : y.testBit j = false := Nat.testBit_lt_two_pow (Nat.lt_of_lt_of_le h (by rw [show (18446744073709551616 : Nat) = 2 ^ 64 by decide]; exact Nat.pow_le_pow_right (by decide) (by omega)))
    rw [e1]
    have e2 : (y / 9223372036854775808 * 9223372036854775808 + y % 4503599627370496).testBit j = false := by
      refine Nat.testBit_lt_two_pow (Nat.lt_of_lt_of_le (show _ < 2 ^ 64 from ?_) (Nat.pow_le_pow_right (by decide) (by omega)))
      rw [show (2 : Nat) ^ 52 = 4503599627370496 by decide] at hfr
      rw [show (2 : Nat) ^ 64 = 18446744073709551616 by decide]
      omega
    rw [e2]; rfl
theorem set_field (y f : Nat) (h : y < 18446744073709551616) (hf : f < 2048) : bits .or .u64 ((y / 9223372036854775808 * 9223372036854775808 + y % 4503599627370496 : Nat) : Int) ((f * 4503599627370496 : Nat) : Int) = ((y / 9223372036854775808 * 9223372036854775808 + (f * 4503599627370496 + y % 4503599627370496) : Nat) : Int) := by
  have hfr : y % 4503599627370496 < 4503599627370496 := Nat.mod_lt _ (by decide)
  have h' := u64_or ((y / 9223372036854775808 * 9223372036854775808 + y % 4503599627370496 : Nat) : Int) ((f * 4503599627370496 : Nat) : Int) (by omega) (by omega) (by omega) (by omega)
  rw [h']
  congr 1
  rw [Int.toNat_natCast, Int.toNat_natCast]
  have e1 : y / 9223372036854775808 * 9223372036854775808 + y % 4503599627370496 = 2 ^ 63 * (y / 9223372036854775808) ||| y % 4503599627370496 := by
    rw [← Nat.two_pow_add_eq_or_of_lt (by omega), Nat.mul_comm]
  have e2 : f * 4503599627370496 + y % 4503599627370496 = 2 ^ 52 * f ||| y % 4503599627370496 := by
    rw [← Nat.two_pow_add_eq_or_of_lt hfr, Nat.mul_comm]
  have e3 : y / 9223372036854775808 * 9223372036854775808 + (f * 4503599627370496 + y % 4503599627370496) = 2 ^ 63 * (y / 9223372036854775808) ||| (f * 4503599627370496 + y % 4503599627370496) := by
    rw [← Nat.two_pow_add_eq_or_of_lt (by omega), Nat.mul_comm]
  rw [e3, e2, e1, show f * 4503599627370496 = 2 ^ 52 * f by rw [Nat.mul_comm]]
  rw [Nat.or_assoc, Nat.or_comm (y % 4503599627370496)]

theorem i64_and2047 (n : Int) : bits .and .i64 n 2047 = n % 2048 := by
  have h127 : (BitVec.ofInt 64 2047).toNat = 2 ^ 11 - 1 := by decide
  have key : (BitVec.ofInt 64 n &&& BitVec.ofInt 64 2047).toNat = (n % ((2 ^ 64 : Nat) : Int)).toNat % 2 ^ 11 := by
    rw [BitVec.toNat_and, BitVec.toNat_ofInt, h127, Nat.and_two_pow_sub_one_eq_mod]
  show IntKind.i64.wrap ((BitVec.ofInt 64 n &&& BitVec.ofInt 64 2047).toNat : Nat) = n % 2048
  rw [key, IntKind.wrap_i64]
  omega
theorem num_of_word {x : Nat} (h : x % 9223372036854775808 < 9218868437227405312) : Num x := by
  unfold Num
  rw [read_eq]
  by_cases c1 : x % 9223372036854775808 < 4503599627370496
  · rw [if_pos c1]; exact ⟨_, _, _, rfl⟩
  · rw [if_neg c1, if_pos h]; exact ⟨_, _, _, rfl⟩
theorem field_ex (y : Nat) (hy : y < 18446744073709551616) (F : Int) (h1 : 1 ≤ F) (h2 : F ≤ 2046) : ∃ X : Nat, Num X ∧ bits .or .u64 ((y : Int) / 9223372036854775808 * 9223372036854775808 + (y : Int) % 4503599627370496) (F * 4503599627370496) = (X : Int) := by
  obtain ⟨f, rfl⟩ : ∃ f : Nat, F = f := ⟨F.toNat, by omega⟩
  have h := set_field y f hy (by omega)
  have e1 : ((y / 9223372036854775808 * 9223372036854775808 + y % 4503599627370496 : Nat) : Int) = (y : Int) / 9223372036854775808 * 9223372036854775808 + (y : Int) % 4503599627370496 := by omega
  have e2 : ((f * 4503599627370496 : Nat) : Int) = (f : Int) * 4503599627370496 := Int.natCast_mul f 4503599627370496
  rw [e1, e2] at h
  refine ⟨_, num_of_word ?_, h⟩
  have hfr : y % 4503599627370496 < 4503599627370496 := Nat.mod_lt _ (by decide)
  have hq : y / 9223372036854775808 = 0 ∨ y / 9223372036854775808 = 1 := by omega
  rcases hq with hq | hq <;> rw [hq] <;> omega

set_option maxHeartbeats 1000000 in
theorem ldexp_zero (p : Nat) (n : Int) (hz : (FloatKind.f64.format.order p 0 == some Ordering.eq) = true) (w : World) : Calls Tryz.prog 101 #[.float .f64 p, .int .i64 n] w fun e w' => e = .returned (.float .f64 p) ∧ w' = w := by
  go_enter Tryz.func101, Tryz.ntmps101
  go_wp2
  go_ret
  exact ⟨rfl, rfl⟩

set_option maxHeartbeats 2000000 in
set_option maxRecDepth 100000 in
theorem ldexp_ex (p : Nat) (hp : p < 18446744073709551616) (hn : Num p) (n : Int) (hn1 : -2000000 ≤ n) (hn2 : n ≤ 2000000) : ∃ q, ∀ w, Calls Tryz.prog 101 #[.float .f64 p, .int .i64 n] w fun e w' => e = .returned (.float .f64 q) ∧ w' = w := by
  cases hz : (FloatKind.f64.format.order p 0 == some Ordering.eq) with
  | true => exact ⟨p, fun w => ldexp_zero p n hz w⟩
  | false =>
    have hnn : (FloatKind.f64.format.order p p != some Ordering.eq) = false := by show (Ieee.double.order p p != _) = _; rw [order_self hn]; rfl
    have hinf : (FloatKind.f64.format.order (absB p) maxF == some Ordering.gt) = false := by
      show (Ieee.double.order (absB p) maxF == _) = _
      have := abs_not_gt hn
      simpa using this
    have HI := hid (fun w => isInf_any p hp false hinf w)
    have HJ := hid (fun w => isNaN_any p false hnn w)
    obtain ⟨y, k, hk, hy, hN⟩ := normalize_ex p hp hn
    have HN := hid hN
    obtain ⟨qc, hC⟩ := copysign_ex y
    have HC := hid hC
    have hb := call_bits y
    have hm3 := i64_and2047 ((y : Int) / 4503599627370496)
    have hk1 : -52 ≤ k := by omega
    have hk2 : k ≤ 0 := by omega
    have hq0 : 0 ≤ (y : Int) / 4503599627370496 := by omega
    have hq1 : (y : Int) / 4503599627370496 < 4096 := by omega
    have hr0 : 0 ≤ (y : Int) / 4503599627370496 % 2048 := by omega
    have hr1 : (y : Int) / 4503599627370496 % 2048 < 2048 := by omega
    clear hk hN hC hnn hinf
    by_cases hE1 : n + k + ((y : Int) / 4503599627370496 % 2048 - 1023) < -1075
    · refine ⟨qc, fun w => ?_⟩
      go_enter Tryz.func101, Tryz.ntmps101
      go_wp2_with fail
      refine (HI.out _).mono ?_
      rintro e w1 ⟨rfl, rfl⟩
      go_wp2_with fail
      refine (HJ.out _).mono ?_
      rintro e w2 ⟨rfl, rfl⟩
      go_wp2_with fail
      refine (HN.out _).mono ?_
      rintro e w3 ⟨rfl, rfl⟩
      go_wp2_with fail
      refine (HC.out _).mono ?_
      rintro e w4 ⟨rfl, rfl⟩
      go_wp2
      go_ret
      exact ⟨rfl, rfl⟩
    by_cases hE2 : 1023 < n + k + ((y : Int) / 4503599627370496 % 2048 - 1023)
    · cases hny : (FloatKind.f64.format.order y 0 == some Ordering.lt) with
      | true =>
        refine ⟨18442240474082181120, fun w => ?_⟩
        go_enter Tryz.func101, Tryz.ntmps101
        go_wp2_with fail
        refine (HI.out _).mono ?_
        rintro e w1 ⟨rfl, rfl⟩
        go_wp2_with fail
        refine (HJ.out _).mono ?_
        rintro e w2 ⟨rfl, rfl⟩
        go_wp2_with fail
        refine (HN.out _).mono ?_
        rintro e w3 ⟨rfl, rfl⟩
        go_wp2_with (go_at_call 69; refine (inf_neg _).mono ?_; rintro e w4 ⟨rfl, rfl⟩)
        go_ret
        exact ⟨rfl, rfl⟩
      | false =>
        refine ⟨9218868437227405312, fun w => ?_⟩
        go_enter Tryz.func101, Tryz.ntmps101
        go_wp2_with fail
        refine (HI.out _).mono ?_
        rintro e w1 ⟨rfl, rfl⟩
        go_wp2_with fail
        refine (HJ.out _).mono ?_
        rintro e w2 ⟨rfl, rfl⟩
        go_wp2_with fail
        refine (HN.out _).mono ?_
        rintro e w3 ⟨rfl, rfl⟩
        go_wp2_with (go_at_call 69; refine (inf_pos _).mono ?_; rintro e w4 ⟨rfl, rfl⟩)
        go_ret
        exact ⟨rfl, rfl⟩
    have hmask := mask_all y hy
    by_cases hE3 : n + k + ((y : Int) / 4503599627370496 % 2048 - 1023) < -1022
    · obtain ⟨X, hX, hXe⟩ := field_ex y hy (n + k + ((y : Int) / 4503599627370496 % 2048 - 1023) + 53 + 1023) (by omega) (by omega)
      have hmm := fun w => hmul (mul_num (show Num 4368491638549381120 from num_of_word (by decide)) hX) w
      have hff := call_from X
      refine ⟨FM 4368491638549381120 X, fun w => ?_⟩
      go_enter Tryz.func101, Tryz.ntmps101
      go_wp2_with fail
      refine (HI.out _).mono ?_
      rintro e w1 ⟨rfl, rfl⟩
      go_wp2_with fail
      refine (HJ.out _).mono ?_
      rintro e w2 ⟨rfl, rfl⟩
      go_wp2_with fail
      refine (HN.out _).mono ?_
      rintro e w3 ⟨rfl, rfl⟩
      go_wp2
      go_ret
      exact ⟨rfl, rfl⟩
    · obtain ⟨X, hX, hXe⟩ := field_ex y hy (n + k + ((y : Int) / 4503599627370496 % 2048 - 1023) + 1023) (by omega) (by omega)
      have hmm := fun w => hmul (mul_num (show Num 4607182418800017408 from num_of_word (by decide)) hX) w
      have hff := call_from X
      refine ⟨FM 4607182418800017408 X, fun w => ?_⟩
      go_enter Tryz.func101, Tryz.ntmps101
      go_wp2_with fail
      refine (HI.out _).mono ?_
      rintro e w1 ⟨rfl, rfl⟩
      go_wp2_with fail
      refine (HJ.out _).mono ?_
      rintro e w2 ⟨rfl, rfl⟩
      go_wp2_with fail
      refine (HN.out _).mono ?_
      rintro e w3 ⟨rfl, rfl⟩
      go_wp2
      go_ret
      exact ⟨rfl, rfl⟩

theorem ldexp_any (p : Nat) (hp : p < 18446744073709551616) (hn : Num p) (n : Int) (hn1 : -2000000 ≤ n) (hn2 : n ≤ 2000000) : ∃ q, ∀ w, Calls Tryz.prog 71 #[.float .f64 p, .int .i64 n] w fun e w' => e = .returned (.float .f64 q) ∧ w' = w := by
  obtain ⟨q, h⟩ := ldexp_ex p hp hn n hn1 hn2
  refine ⟨q, fun w => ?_⟩
  have HQ := hid h
  clear h
  go_enter Tryz.func71, Tryz.ntmps71
  go_wp2_with (go_at_call 101; refine (HQ.out _).mono ?_; rintro e w' ⟨rfl, rfl⟩)
  go_ret
  exact ⟨rfl, rfl⟩
end Go.Proofs.YtinopkmcddjgdaaGreatDoor
namespace Go.Proofs.YtinopkmcddjgdaaGreatDoor
open Go.RowKit FB
attribute [local go_sem] run_store_float

theorem floor_eq (x : Nat) : ∃ g : Bool → Nat → Sem Value, Extern.MathFloor.toIntegral "math.archFloor" .down #[.float .f64 x] = (match FloatKind.f64.decode x with
    | .nan s t => g s t
    | d => pure (.float .f64 (FloatKind.f64.encode (d.integral .down)))) := ⟨_, rfl⟩
theorem floor_num (x : Nat) (hn : Num x) (w : World) : Calls Tryz.prog 70 #[.float .f64 x] w fun e w' => e = .returned (.float .f64 (Ieee.double.write ((Ieee.double.read x).integral .down))) ∧ w' = w := by
  obtain ⟨s, m, e, hr⟩ := hn
  have hf : ∀ w, (callFunc 98 #[.float .f64 x]).run Tryz.prog w = .ok (.value (.float .f64 (Ieee.double.write ((Ieee.double.read x).integral .down)))) w := by
    intro w
    rw [@run_callFunc_extern Tryz.prog 98 _ (Extern.MathFloor.toIntegral "math.archFloor" .down) Tryz.func98 (by kernel_rfl) (by kernel_rfl) (by kernel_rfl) (by kernel_rfl) _ w]
    obtain ⟨g, hg⟩ := floor_eq x
    rw [hg]
    have hd : FloatKind.f64.decode x = .number s m e := hr
    rw [hd, hr]; rfl
  clear hr
  go_enter Tryz.func70, Tryz.ntmps70
  go_wp2
  go_ret
  exact ⟨rfl, rfl⟩

theorem conv_int (b : Nat) (n : Int) (h : floatToIntVal .f64 b .i64 = some n) (w : World) : (convert 22 3 (.float .f64 b)).run Tryz.prog w = .ok (.int .i64 n) w :=
  run_convert_float_int w 22 3 .f64 .i64 b n (by kernel_rfl) Tryz.underlying3 h

theorem fifteen {c0 c1 c2 c3 c4 c5 c6 c7 c8 c9 ca cb cc cd ce : Nat} (w : World) (t : TypeId) :
    ∀ i, i < 15 → (w.alloc (.cells #[.float .f64 c0, .float .f64 c1, .float .f64 c2, .float .f64 c3, .float .f64 c4, .float .f64 c5, .float .f64 c6, .float .f64 c7, .float .f64 c8, .float .f64 c9, .float .f64 ca, .float .f64 cb, .float .f64 cc, .float .f64 cd, .float .f64 ce] t)).cell? ⟨w.heap.size, i, none⟩ = some (.float .f64 ([c0, c1, c2, c3, c4, c5, c6, c7, c8, c9, ca, cb, cc, cd, ce].getD i 0)) := by
  intro i hi
  rw [World.cell?_alloc_at _ _ _ _ rfl]
  match i, hi with
  | 0, _ | 1, _ | 2, _ | 3, _ | 4, _ | 5, _ | 6, _ | 7, _ | 8, _ | 9, _ | 10, _ | 11, _ | 12, _ | 13, _ | 14, _ => rfl
theorem exp15_cells (w : World) : ∀ i, i < 15 → (w.alloc (.cells #[.float .f64 4607182418800017408, .float .f64 4607182418800017408, .float .f64 4602678819172646912, .float .f64 4595172819793696085, .float .f64 4586165620538955093, .float .f64 4575957461383581969, .float .f64 4564047942368979991, .float .f64 4551452160554016794, .float .f64 4537941361671905306, .float .f64 4523617214285662004, .float .f64 4508805057796939612, .float .f64 4493156764026750180, .float .f64 4477122120089393304, .float .f64 4460272573143870729, .float .f64 4443145680587881629] 141)).cell? ⟨w.heap.size, i, none⟩ = some (.float .f64 (exp15.getD i 0)) := by
  unfold exp15
  exact fifteen w _
theorem poly15 (x : Nat) (hok : Ok exp15 (eR x)) (b : Nat) (w : World) (hc : ∀ i, i < 15 → w.cell? ⟨b, i, none⟩ = some (.float .f64 (exp15.getD i 0))) :
    Calls Tryz.prog 93 #[.float .f64 (eR x), .slice (some ⟨b, 0, none⟩) 15 15] w fun e w' => e = .returned (.float .f64 (eP x)) ∧ w' = w :=
  poly_any b (fun i => exp15.getD i 0) exp15 15 (eR x) w rfl (by decide) hok (get12 _ _ rfl) hc

set_option maxHeartbeats 2000000 in
theorem exp_mid (x q : Nat) (hO : ExpOk x) (hL : ∀ w, Calls Tryz.prog 71 #[.float .f64 (eP x), .int .i64 (eN x)] w fun e w' => e = .returned (.float .f64 q) ∧ w' = w)
    (h1 : (FloatKind.f64.format.order x x != some Ordering.eq) = false) (h2 : (FloatKind.f64.format.order x 4649456441864749056 == some Ordering.gt) = false) (h3 : (FloatKind.f64.format.order x 13873145138068324352 == some Ordering.lt) = false) (w : World) :
    Calls Tryz.prog 81 #[.float .f64 x] w fun e w' => e = .returned (.float .f64 q) ∧ Below w.heap.size w w' := by
  have HL := hid hL
  have HJ := hid (fun w => isNaN_any x false h1 w)
  have HF := hid (show ∀ w, Calls Tryz.prog 70 #[.float .f64 (eY2 x)] w fun e w' => e = .returned (.float .f64 (eK x)) ∧ w' = w from fun w => floor_num (eY2 x) hO.y2n w)
  have HP := hid (fun b w hc => poly15 x hO.p b w hc)
  have a1 := fun w => hmul hO.y1 w
  have a2 := fun w => hadd hO.y2 w
  have a3 := fun w => hmul hO.a w
  have a4 := fun w => hmul hO.b w
  have a5 := fun w => hsub hO.r1 w
  have a6 := fun w => hsub hO.r w
  have a7 := fun w => conv_int _ _ hO.n w
  unfold l2e at a1
  unfold halfF at a2
  unfold lnG at a3
  unfold lnS at a4
  clear hL hO h1
  go_enter Tryz.func81, Tryz.ntmps81
  go_wp2_with fail
  refine (HJ.out _).mono ?_
  rintro e w1 ⟨rfl, rfl⟩
  go_wp2_with fail
  refine (HF.out _).mono ?_
  rintro e w2 ⟨rfl, rfl⟩
  go_wp2_with fail
  refine (HP.out _ _ (exp15_cells _)).mono ?_
  rintro e w3 ⟨rfl, rfl⟩
  go_wp2_with fail
  refine (HL.out _).mono ?_
  rintro e w4 ⟨rfl, rfl⟩
  go_wp2
  go_ret
  exact ⟨rfl, (Below.refl _ _).alloc (Nat.le_refl _) _⟩
end Go.Proofs.YtinopkmcddjgdaaGreatDoor
namespace Go.Proofs.YtinopkmcddjgdaaGreatDoor
open Go.RowKit FB

theorem e15_all : ((List.range 15).all fun n => Ieee.double.div oneF (facF (max 1 n)) == exp15[n]?) = true := by decide +kernel
theorem e15_step (n : Nat) (h : n ≤ 14) : ∃ c, exp15[n]? = some c ∧ Ieee.double.div oneF (facF (max 1 n)) = some c := by
  have := List.all_eq_true.1 e15_all n (List.mem_range.2 (by omega))
  have hlt : n < exp15.length := by show n < 15; omega
  rw [List.getElem?_eq_getElem hlt] at this
  exact ⟨exp15[n], List.getElem?_eq_getElem hlt, by simpa using this⟩
theorem hor14 (z c : Nat) (hz : Num z) (hc : exp15[14]? = some c) : hor (exp15.drop 14) z = c := by
  obtain rfl : 4443145680587881629 = c := Option.some.inj hc
  show FA 4443145680587881629 (FM z 0) = 4443145680587881629
  rcases FM_zero hz with h | h <;> rw [h] <;> decide +kernel

set_option maxHeartbeats 4000000 in
theorem expOf_mid (x q : Nat) (hO : ExpOk x) (hL : ∀ w, Calls Tryz.prog 71 #[.float .f64 (eP x), .int .i64 (eN x)] w fun e w' => e = .returned (.float .f64 q) ∧ w' = w)
    (h1 : (FloatKind.f64.format.order x x != some Ordering.eq) = false) (h2 : (FloatKind.f64.format.order x 4649456441864749056 == some Ordering.gt) = false) (h3 : (FloatKind.f64.format.order x 13873145138068324352 == some Ordering.lt) = false) (w : World) :
    Calls Tryz.prog 37 #[.float .f64 x] w fun e w' => e = .returned (.float .f64 q) ∧ w' = w := by
  have HL := hid hL
  have HF := hid (show ∀ w, Calls Tryz.prog 70 #[.float .f64 (eY2 x)] w fun e w' => e = .returned (.float .f64 (eK x)) ∧ w' = w from fun w => floor_num (eY2 x) hO.y2n w)
  have HO := hid hO
  have a1 := fun w => hmul hO.y1 w
  have a2 := fun w => hadd hO.y2 w
  have a3 := fun w => hmul hO.a w
  have a4 := fun w => hmul hO.b w
  have a5 := fun w => hsub hO.r1 w
  have a6 := fun w => hsub hO.r w
  have a7 := fun w => conv_int _ _ hO.n w
  unfold l2e at a1
  unfold halfF at a2
  unfold lnG at a3
  unfold lnS at a4
  clear hL hO
  go_enter Tryz.func37, Tryz.ntmps37
  go_wp2_with fail
  refine (HF.out _).mono ?_
  rintro e w2 ⟨rfl, rfl⟩
  go_wp2_with fail
  clear a1 a2 a3 a4 a5 a6 h1 h2 h3
  go_loop [7, 8] (fun p n => ∃ j : Nat, j ≤ 15 ∧ n = .int .i64 ((j : Int) - 1) ∧ p = .float .f64 (hor (exp15.drop j) (eR x))) (fun _ n => (intOf n + 1).toNat)
  case atStart => exact ⟨15, by omega, rfl, rfl⟩
  case round =>
    obtain ⟨j, hj, rfl, rfl⟩ := hrel
    by_cases h0 : j = 0
    · have hp : hor (exp15.drop j) (eR x) = eP x := by rw [h0]; rfl
      have hneg : (j : Int) - 1 = -1 := by omega
      rw [hneg]
      clear h0 hj hneg
      go_wp2_with fail
      refine (HL.out _).mono ?_
      rintro e w3 ⟨rfl, rfl⟩
      go_wp2
      go_ret
      exact ⟨rfl, rfl⟩
    · obtain ⟨i, rfl⟩ : ∃ i, j = i + 1 := ⟨j - 1, by omega⟩
      have ej : ((i + 1 : Nat) : Int) - 1 = (i : Int) := by omega
      rw [ej]
      obtain ⟨c, hc, hd⟩ := e15_step i (by omega)
      have hm := fun w => hmul (HO.out.p.m (i + 1)) w
      have ha := fun w => hadd (HO.out.p.a i c hc) w
      have hq := fun w => hquo hd w
      unfold oneF at hq
      have H8 : Hid (i = 14 → hor (exp15.drop 14) (eR x) = c) := fun e => by subst e; exact hor14 _ c HO.out.rn hc
      generalize hor (List.drop (i + 1) exp15) (eR x) = s1 at *
      generalize FM (eR x) s1 = m1 at *
      clear hd hc h0 ej
      go_wp2
      go_loop [9, 10] (fun f t => ∃ k : Nat, 2 ≤ k ∧ (k ≤ i + 1 ∨ k = 2) ∧ t = .int .i64 k ∧ f = .float .f64 (facF (k - 1))) (fun _ t => ((i : Int) + 3 - intOf t).toNat)
      case atStart => exact ⟨2, by omega, .inr rfl, rfl, by rw [show 2 - 1 = 1 from rfl, facF_one]; rfl⟩
      case round =>
        obtain ⟨k, hk2, hk, rfl, rfl⟩ := hrel
        by_cases hle : k ≤ i
        · have hf := fun w => hmul (facF_step k hk2 (by omega)) w
          clear hq ha hm
          go_wp2
          go_round
          case rel => exact ⟨k + 1, by omega, .inl (by omega), by go_num, by simp⟩
          case measure => simp [intOf]; omega
        · have hke : k - 1 = max 1 i := by omega
          rw [hke]
          generalize facF (max 1 i) = f1 at *
          have hgt : (i : Int) < k := by omega
          by_cases hi14 : i = 14
          · have hb14 : ((i : Int) == 14) = true := by simp; omega
            have H14 := hid hi14
            clear hi14
            go_wp2
            go_round
            case rel => exact ⟨i, by omega, rfl, by rw [show exp15.drop i = exp15.drop 14 by rw [H14.out], H8.out H14.out]⟩
            case measure => simp [intOf]
          · have hb14 : ((i : Int) == 14) = false := by simp; omega
            go_wp2
            go_round
            case rel => exact ⟨i, by omega, rfl, rfl⟩
            case measure => simp [intOf]

theorem exp_nan (x : Nat) (h : (FloatKind.f64.format.order x x != some Ordering.eq) = true) (w : World) : Calls Tryz.prog 81 #[.float .f64 x] w fun e w' => e = .returned (.float .f64 x) ∧ w' = w := by
  have HJ := hid (fun w => isNaN_any x true h w)
  clear h
  go_enter Tryz.func81, Tryz.ntmps81
  go_wp2_with (go_at_call 94; refine (HJ.out _).mono ?_; rintro e w1 ⟨rfl, rfl⟩)
  go_ret
  exact ⟨rfl, rfl⟩
theorem exp_big (x : Nat) (h : (FloatKind.f64.format.order x x != some Ordering.eq) = false) (h2 : (FloatKind.f64.format.order x 4649456441864749056 == some Ordering.gt) = true) (w : World) : Calls Tryz.prog 81 #[.float .f64 x] w fun e w' => e = .returned (.float .f64 9218868437227405312) ∧ w' = w := by
  have HJ := hid (fun w => isNaN_any x false h w)
  clear h
  go_enter Tryz.func81, Tryz.ntmps81
  go_wp2_with (first | (go_at_call 94; refine (HJ.out _).mono ?_; rintro e w1 ⟨rfl, rfl⟩) | (go_at_call 69; refine (inf_pos _).mono ?_; rintro e w2 ⟨rfl, rfl⟩))
  go_ret
  exact ⟨rfl, rfl⟩
theorem exp_low (x : Nat) (h : (FloatKind.f64.format.order x x != some Ordering.eq) = false) (h2 : (FloatKind.f64.format.order x 4649456441864749056 == some Ordering.gt) = false) (h3 : (FloatKind.f64.format.order x 13873145138068324352 == some Ordering.lt) = true) (w : World) : Calls Tryz.prog 81 #[.float .f64 x] w fun e w' => e = .returned (.float .f64 0) ∧ w' = w := by
  have HJ := hid (fun w => isNaN_any x false h w)
  clear h
  go_enter Tryz.func81, Tryz.ntmps81
  go_wp2_with (go_at_call 94; refine (HJ.out _).mono ?_; rintro e w1 ⟨rfl, rfl⟩)
  go_ret
  exact ⟨rfl, rfl⟩
theorem expOf_nan (x : Nat) (h : (FloatKind.f64.format.order x x != some Ordering.eq) = true) (w : World) : Calls Tryz.prog 37 #[.float .f64 x] w fun e w' => e = .returned (.float .f64 x) ∧ w' = w := by
  go_enter Tryz.func37, Tryz.ntmps37
  go_wp2
  go_ret
  exact ⟨rfl, rfl⟩
theorem expOf_big (x : Nat) (h : (FloatKind.f64.format.order x x != some Ordering.eq) = false) (h2 : (FloatKind.f64.format.order x 4649456441864749056 == some Ordering.gt) = true) (w : World) : Calls Tryz.prog 37 #[.float .f64 x] w fun e w' => e = .returned (.float .f64 9218868437227405312) ∧ w' = w := by
  go_enter Tryz.func37, Tryz.ntmps37
  go_wp2_with (go_at_call 69; refine (inf_pos _).mono ?_; rintro e w2 ⟨rfl, rfl⟩)
  go_ret
  exact ⟨rfl, rfl⟩
theorem expOf_low (x : Nat) (h : (FloatKind.f64.format.order x x != some Ordering.eq) = false) (h2 : (FloatKind.f64.format.order x 4649456441864749056 == some Ordering.gt) = false) (h3 : (FloatKind.f64.format.order x 13873145138068324352 == some Ordering.lt) = true) (w : World) : Calls Tryz.prog 37 #[.float .f64 x] w fun e w' => e = .returned (.float .f64 0) ∧ w' = w := by
  go_enter Tryz.func37, Tryz.ntmps37
  go_wp2
  go_ret
  exact ⟨rfl, rfl⟩

theorem exp_any (x : Nat) (hx : x < 18446744073709551616) : ∃ o, ∀ w,
    (Calls Tryz.prog 81 #[.float .f64 x] w fun e w' => ∃ r, e = .returned (.float .f64 r) ∧ Got o r ∧ Below w.heap.size w w') ∧
    (Calls Tryz.prog 37 #[.float .f64 x] w fun e w' => ∃ r, e = .returned (.float .f64 r) ∧ Got o r ∧ Below w.heap.size w w') := by
  have one : ∀ (r : Nat) {w : World} {f : FuncId}, Calls Tryz.prog f #[.float .f64 x] w (fun e w' => e = .returned (.float .f64 r) ∧ w' = w) → (Calls Tryz.prog f #[.float .f64 x] w fun e w' => ∃ s, e = .returned (.float .f64 s) ∧ Got (some r) s ∧ Below w.heap.size w w') := fun r w f h => h.mono fun e w' hh => ⟨r, hh.1, rfl, by rw [hh.2]; exact Below.refl _ _⟩
  cases hnn : (FloatKind.f64.format.order x x != some Ordering.eq) with
  | true => exact ⟨some x, fun w => ⟨one x (exp_nan x hnn w), one x (expOf_nan x hnn w)⟩⟩
  | false =>
    cases hg : (FloatKind.f64.format.order x 4649456441864749056 == some Ordering.gt) with
    | true => exact ⟨some 9218868437227405312, fun w => ⟨one _ (exp_big x hnn hg w), one _ (expOf_big x hnn hg w)⟩⟩
    | false =>
      cases hl : (FloatKind.f64.format.order x 13873145138068324352 == some Ordering.lt) with
      | true => exact ⟨some 0, fun w => ⟨one _ (exp_low x hnn hg hl w), one _ (expOf_low x hnn hg hl w)⟩⟩
      | false =>
        have hg' : Ieee.double.order x 4649456441864749056 ≠ some .gt := by
          intro h; have : (FloatKind.f64.format.order x 4649456441864749056 == some Ordering.gt) = true := by show (Ieee.double.order x _ == _) = _; rw [h]; rfl
          rw [this] at hg; cases hg
        have hl' : Ieee.double.order x 13873145138068324352 ≠ some .lt := by
          intro h; have : (FloatKind.f64.format.order x 13873145138068324352 == some Ordering.lt) = true := by show (Ieee.double.order x _ == _) = _; rw [h]; rfl
          rw [this] at hl; cases hl
        have hn : Num x := by
          cases hr : Ieee.double.read x with
          | number s m e => exact ⟨s, m, e, hr⟩
          | nan s f =>
            exfalso
            have : (FloatKind.f64.format.order x x != some Ordering.eq) = true := by show (Ieee.double.order x x != _) = _; rw [order_nan hr]; rfl
            rw [this] at hnn; cases hnn
          | infinity s =>
            exfalso
            cases s with
            | true => apply hl'; unfold Ieee.Format.order; rw [hr, show Ieee.double.read 13873145138068324352 = .number true 6561885394567168 (-43) by decide +kernel]; rfl
            | false => apply hg'; unfold Ieee.Format.order; rw [hr, show Ieee.double.read 4649456441864749056 = .number false 6245226045767680 (-43) by decide +kernel]; rfl
        have hO := exp_ok x (exp_dom hx hn hg' hl')
        obtain ⟨q, hq⟩ := ldexp_any (eP x) hO.plt hO.pn (eN x) hO.nb.1 hO.nb.2
        exact ⟨some q, fun w => ⟨(exp_mid x q hO hq hnn hg hl w).mono fun e w' h => ⟨q, h.1, rfl, h.2⟩, one q (expOf_mid x q hO hq hnn hg hl w)⟩⟩
end Go.Proofs.YtinopkmcddjgdaaGreatDoor
