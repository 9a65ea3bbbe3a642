/-
  math.Frexp of a positive finite number; math.IsInf, NaN, Inf.
-/
import Derived.Test.YtkebgnemccaimaaGreatDoorQJ2
import Derived.Test.YtkebgnemccaimaaGreatDoorQJ1
namespace Go.Proofs.YtkebgnemccaimaaGreatDoor
open Go.RowKit FB

theorem nan_any (w : World) : Calls Tryz.prog 108 #[] w fun e w' => e = .returned (.float .f64 9221120237041090561) ∧ w' = w := by
  have h2 : ∀ w, (callFunc 127 #[.int .u64 9221120237041090561]).run Tryz.prog w = .ok (.value (.float .f64 9221120237041090561)) w := fun w => call_from 9221120237041090561 w
  go_enter Tryz.func108, Tryz.ntmps108
  go_wp2
  go_ret
  exact ⟨rfl, rfl⟩
theorem inf_neg (w : World) : Calls Tryz.prog 109 #[.int .i64 (-1)] w fun e w' => e = .returned (.float .f64 18442240474082181120) ∧ w' = w := by
  have h2 : ∀ w, (callFunc 127 #[.int .u64 18442240474082181120]).run Tryz.prog w = .ok (.value (.float .f64 18442240474082181120)) w := fun w => call_from 18442240474082181120 w
  go_enter Tryz.func109, Tryz.ntmps109
  go_wp2
  go_ret
  exact ⟨rfl, rfl⟩
theorem inf_pos (w : World) : Calls Tryz.prog 109 #[.int .i64 1] w fun e w' => e = .returned (.float .f64 9218868437227405312) ∧ w' = w := by
  have h2 : ∀ w, (callFunc 127 #[.int .u64 9218868437227405312]).run Tryz.prog w = .ok (.value (.float .f64 9218868437227405312)) w := fun w => call_from 9218868437227405312 w
  go_enter Tryz.func109, Tryz.ntmps109
  go_wp2
  go_ret
  exact ⟨rfl, rfl⟩
theorem isInf_one (x : Nat) (b : Bool) (hb : (FloatKind.f64.format.order x maxF == some Ordering.gt) = b) (w : World) : Calls Tryz.prog 110 #[.float .f64 x, .int .i64 1] w fun e w' => e = .returned (.bool b) ∧ w' = w := by
  unfold maxF at hb
  go_enter Tryz.func110, Tryz.ntmps110
  go_wp2
  go_ret
  exact ⟨rfl, rfl⟩

theorem ord_pos {a b : Nat} (ha : a < 9218868437227405312) (hb : b < 9218868437227405312) : FloatKind.f64.format.order a b = some (compare a b) := order_pos ha hb

theorem norm_big (r : Nat) (h1 : 4503599627370496 ≤ r) (h2 : r < 9218868437227405312) (w : World) : Calls Tryz.prog 137 #[.float .f64 r] w fun e w' => e = .returned (.tuple #[.float .f64 r, .int .i64 0]) ∧ w' = w := by
  have hab : absB r = r := by unfold absB; omega
  have hA := hid (abs_any r (by omega))
  have hc : (FloatKind.f64.format.order r 4503599627370496 == some Ordering.lt) = false := by
    rw [ord_pos h2 (by decide)]
    rcases Nat.lt_or_eq_of_le h1 with h | h
    · rw [Nat.compare_eq_gt.2 h]; rfl
    · rw [← h, Nat.compare_eq_eq.2 rfl]; rfl
  rw [hab] at hA
  clear hab
  go_enter Tryz.func137, Tryz.ntmps137
  go_wp2_with (go_at_call 102; refine (hA.out _).mono ?_; rintro e w' ⟨rfl, rfl⟩)
  go_ret2
  exact ⟨rfl, rfl⟩
theorem norm_small (r : Nat) (h0 : 0 < r) (h2 : r < 4503599627370496) (w : World) : Calls Tryz.prog 137 #[.float .f64 r] w fun e w' => e = .returned (.tuple #[.float .f64 (r.log2 * 4503599627370496 + nM r), .int .i64 (-52)]) ∧ w' = w := by
  have hab : absB r = r := by unfold absB; omega
  have hA := hid (abs_any r (by omega))
  have hc : (FloatKind.f64.format.order r 4503599627370496 == some Ordering.lt) = true := by
    rw [ord_pos (by omega) (by decide), Nat.compare_eq_lt.2 h2]; rfl
  have hm := fun w => hmul (mul_p52 h0 h2) w
  unfold p52 at hm
  rw [hab] at hA
  clear hab
  go_enter Tryz.func137, Tryz.ntmps137
  go_wp2_with (go_at_call 102; refine (hA.out _).mono ?_; rintro e w' ⟨rfl, rfl⟩)
  go_ret2
  exact ⟨rfl, rfl⟩

theorem mask_field (y : Nat) (h : y < 9223372036854775808) : bits .andNot .u64 (y : Int) 9218868437227405312 = ((y % 4503599627370496 : Nat) : Int) := by
  have h' := u64_andNot (y : Int) 9218868437227405312 (by omega) (by omega) (by omega) (by omega)
  rw [h']
  congr 1
  show y &&& 9227875636482146303 = y % 4503599627370496
  apply Nat.eq_of_testBit_eq
  intro j
  rw [Nat.testBit_and, show (9227875636482146303 : Nat) = 2 ^ 63 + (2 ^ 52 - 1) by decide, show y % 4503599627370496 = y % 2 ^ 52 from rfl, Nat.testBit_mod_two_pow]
  rcases Nat.lt_or_ge j 63 with hj | hj
  · rw [Nat.testBit_two_pow_add_gt hj, Nat.testBit_two_pow_sub_one, Bool.and_comm]
  · have : y.testBit j = false := Nat.testBit_lt_two_pow (Nat.lt_of_lt_of_le h (by rw [show (9223372036854775808 : Nat) = 2 ^ 63 by decide]; exact Nat.pow_le_pow_right (by decide) hj))
    rw [this]; simp
theorem set_half (y : Nat) (h : y < 4503599627370496) : bits .or .u64 (y : Int) 4602678819172646912 = ((4602678819172646912 + y : Nat) : Int) := by
  have h' := u64_or (y : Int) 4602678819172646912 (by omega) (by omega) (by omega) (by omega)
  rw [h']
  congr 1
  show y ||| 4602678819172646912 = 4602678819172646912 + y
  rw [Nat.or_comm, show (4602678819172646912 : Nat) = 2 ^ 52 * 1022 by decide, Nat.two_pow_add_eq_or_of_lt (by omega)]

set_option maxHeartbeats 400000 in
theorem frexp_core (r y : Nat) (k0 : Int) (h0 : 0 < r) (h2 : r < 9218868437227405312) (hy : y < 9218868437227405312) (hk : k0 = 0 ∨ k0 = -52)
    (hN : ∀ w, Calls Tryz.prog 137 #[.float .f64 r] w fun e w' => e = .returned (.tuple #[.float .f64 y, .int .i64 k0]) ∧ w' = w) (w : World) :
    Calls Tryz.prog 130 #[.float .f64 r] w fun e w' => e = .returned (.tuple #[.float .f64 ((4602678819172646912 + y % 4503599627370496 : Nat)), .int .i64 (k0 + ((y / 4503599627370496 : Nat) : Int) - 1022)]) ∧ w' = w := by
  have HN := hid hN
  clear hN
  have hz : (FloatKind.f64.format.order r 0 == some Ordering.eq) = false := by
    rw [ord_pos h2 (by decide), Nat.compare_eq_gt.2 h0]; rfl
  have hnn : (FloatKind.f64.format.order r r != some Ordering.eq) = false := by
    rw [ord_pos h2 h2, Nat.compare_eq_eq.2 rfl]; rfl
  have hab : absB r = r := by unfold absB; omega
  have hinf : (FloatKind.f64.format.order (absB r) maxF == some Ordering.gt) = false := by
    rw [hab, ord_pos h2 (by decide)]
    have : r ≤ maxF := by unfold maxF; omega
    rcases Nat.lt_or_eq_of_le this with h | h
    · rw [Nat.compare_eq_lt.2 h]; rfl
    · rw [h, Nat.compare_eq_eq.2 rfl]; rfl
  have HI := hid (fun w => isInf_any r (by omega) false hinf w)
  have HJ := hid (fun w => isNaN_any r false hnn w)
  have hb := call_bits y
  have hf : ∀ w, (callFunc 127 #[.int .u64 (4602678819172646912 + (y : Int) % 4503599627370496)]).run Tryz.prog w = .ok (.value (.float .f64 (4602678819172646912 + y % 4503599627370496))) w := fun w => call_from (4602678819172646912 + y % 4503599627370496) w
  have m1 : bits .andNot .u64 (y : Int) 9218868437227405312 = (y : Int) % 4503599627370496 := mask_field y (by omega)
  have m2 : bits .or .u64 ((y : Int) % 4503599627370496) 4602678819172646912 = 4602678819172646912 + (y : Int) % 4503599627370496 := set_half (y % 4503599627370496) (Nat.mod_lt _ (by decide))
  have m3 : bits .and .u64 ((y : Int) / 4503599627370496) 2047 = (y : Int) / 4503599627370496 := by
    have h' := u64_and ((y : Int) / 4503599627370496) 2047 (by omega) (by omega) (by omega) (by omega)
    rw [h']
    have e : ((y : Int) / 4503599627370496).toNat &&& (2047 : Int).toNat = ((y : Int) / 4503599627370496).toNat := by
      show _ &&& 2047 = _
      rw [Nat.and_two_pow_sub_one_eq_mod _ 11]
      exact Nat.mod_eq_of_lt (by omega)
    rw [e]; omega
  have q1 : 0 ≤ (y : Int) / 4503599627370496 := by omega
  have q2 : (y : Int) / 4503599627370496 ≤ 2046 := by omega
  have hk0 : -52 ≤ k0 := by omega
  have hk1 : k0 ≤ 0 := by omega
  clear hk
  clear hab hinf hnn
  go_enter Tryz.func130, Tryz.ntmps130
  go_wp2_with fail
  refine (HI.out _).mono ?_
  rintro e w' ⟨rfl, rfl⟩
  go_wp2_with fail
  refine (HJ.out _).mono ?_
  rintro e w' ⟨rfl, rfl⟩
  go_wp2_with fail
  refine (HN.out _).mono ?_
  rintro e w' ⟨rfl, rfl⟩
  go_wp2
  go_ret2
  refine ⟨?_, rfl⟩
  have e : k0 + ((y : Int) / 4503599627370496 - 1023 + 1) = k0 + ((y / 4503599627370496 : Nat) : Int) - 1022 := by omega
  rw [← e]; rfl

/-- math.Frexp of a positive finite number. -/
theorem frexp_any (r : Nat) (h0 : 0 < r) (h2 : r < 9218868437227405312) (w : World) :
    Calls Tryz.prog 111 #[.float .f64 r] w fun e w' => e = .returned (.tuple #[.float .f64 (lnF r), .int .i64 (nE r - 1022)]) ∧ w' = w := by
  have key : ∀ w, Calls Tryz.prog 130 #[.float .f64 r] w fun e w' => e = .returned (.tuple #[.float .f64 (lnF r), .int .i64 (nE r - 1022)]) ∧ w' = w := by
    intro w
    by_cases c : r < 4503599627370496
    · have hl := log_bd h0 c
      have hb := nM_bd h0
      have := frexp_core r (r.log2 * 4503599627370496 + nM r) (-52) h0 h2 (by omega) (.inr rfl) (fun w => norm_small r h0 c w) w
      have e1 : (4602678819172646912 + (r.log2 * 4503599627370496 + nM r) % 4503599627370496 : Nat) = lnF r := by unfold lnF; omega
      have e2 : (-52 + (((r.log2 * 4503599627370496 + nM r) / 4503599627370496 : Nat) : Int) - 1022) = nE r - 1022 := by
        unfold nE; rw [if_pos c]; omega
      rw [e1, e2] at this
      exact this
    · have := frexp_core r r 0 h0 h2 h2 (.inl rfl) (fun w => norm_big r (by omega) h2 w) w
      have e1 : (4602678819172646912 + r % 4503599627370496 : Nat) = lnF r := by unfold lnF nM; rw [if_neg c]; omega
      have e2 : (0 + ((r / 4503599627370496 : Nat) : Int) - 1022) = nE r - 1022 := by unfold nE; rw [if_neg c]; omega
      rw [e1, e2] at this
      exact this
  go_enter Tryz.func111, Tryz.ntmps111
  go_wp2_with (go_at_call 130; refine (key _).mono ?_; rintro e w' ⟨rfl, rfl⟩)
  go_ret2
  exact ⟨rfl, rfl⟩
end Go.Proofs.YtkebgnemccaimaaGreatDoor
