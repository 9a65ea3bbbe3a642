/-
  math.Abs, IsNaN, IsInf; grain.finite, unsignedZero, Sin, Cos; mercatorref1.Finite, SameBits.
-/
import Derived.Test.YtmiamfnnccjmeacDoorSides2
import Derived.Test.YtmiamfnnccjmeacDoorFlt2
import Derived.Laws.BitsAll
namespace Go.Proofs.YtmiamfnnccjmeacDoor
open Go.RowKit FB

theorem call_bits (b : Nat) (w : World) : (callFunc 93 #[.float .f64 b]).run Tryd.prog w = .ok (.value (.int .u64 b)) w :=
  (@run_callFunc_extern Tryd.prog 93 _ Extern.MathFloatBits.float64bits Tryd.func93 (by kernel_rfl) (by kernel_rfl) (by kernel_rfl) (by kernel_rfl) _ w).trans rfl
theorem call_from (b : Nat) (w : World) : (callFunc 92 #[.int .u64 b]).run Tryd.prog w = .ok (.value (.float .f64 b)) w :=
  (@run_callFunc_extern Tryd.prog 92 _ Extern.MathFloatBits.float64frombits Tryd.func92 (by kernel_rfl) (by kernel_rfl) (by kernel_rfl) (by kernel_rfl) _ w).trans rfl

theorem andNot_abs (x : Nat) (hx : x < 18446744073709551616) : bits .andNot .u64 (x : Int) 9223372036854775808 = ((absB x : Nat) : Int) := by
  have h := u64_andNot (x : Int) 9223372036854775808 (by omega) (by omega) (by omega) (by omega)
  rw [h]
  congr 1
  show x &&& 9223372036854775807 = x % 9223372036854775808
  exact Nat.and_two_pow_sub_one_eq_mod x 63

theorem abs_any (x : Nat) (hx : x < 18446744073709551616) (w : World) : Calls Tryd.prog 71 #[.float .f64 x] w fun e w' => e = .returned (.float .f64 (absB x)) ∧ w' = w := by
  have hA := andNot_abs x hx
  have h1 := call_bits
  have h2 := call_from
  go_enter Tryd.func71, Tryd.ntmps71
  go_wp2
  go_ret
  exact ⟨rfl, rfl⟩

theorem isNaN_any (x : Nat) (b : Bool) (hb : (FloatKind.f64.format.order x x != some Ordering.eq) = b) (w : World) : Calls Tryd.prog 103 #[.float .f64 x] w fun e w' => e = .returned (.bool b) ∧ w' = w := by
  go_enter Tryd.func103, Tryd.ntmps103
  go_wp2
  go_ret
  exact ⟨rfl, rfl⟩

theorem isInf_any (x : Nat) (hx : x < 18446744073709551616) (b : Bool) (hb : (FloatKind.f64.format.order (absB x) maxF == some Ordering.gt) = b) (w : World) : Calls Tryd.prog 104 #[.float .f64 x, .int .i64 0] w fun e w' => e = .returned (.bool b) ∧ w' = w := by
  unfold maxF at hb
  go_enter Tryd.func104, Tryd.ntmps104
  go_wp2_with (go_at_call 71; refine (abs_any x hx _).mono ?_; rintro e w' ⟨rfl, rfl⟩)
  go_ret
  exact ⟨rfl, rfl⟩

/-- Is the word a finite number? -/
def finV (x : Nat) : Bool := match Ieee.double.read x with | .number .. => true | _ => false
theorem finV_num {x : Nat} : finV x = true ↔ Num x := by
  unfold finV Num
  cases Ieee.double.read x <;> simp

theorem finite_any (x : Nat) (hx : x < 18446744073709551616) (w : World) : Calls Tryd.prog 98 #[.float .f64 x] w fun e w' => e = .returned (.bool (finV x)) ∧ w' = w := by
  cases hr : Ieee.double.read x with
  | number s m e =>
    have hn : Num x := ⟨s, m, e, hr⟩
    have h1 : (FloatKind.f64.format.order x x != some Ordering.eq) = false := by
      show (Ieee.double.order x x != some Ordering.eq) = false
      rw [order_self hn]; rfl
    have h2 : (FloatKind.f64.format.order (absB x) maxF == some Ordering.gt) = false := by
      show (Ieee.double.order (absB x) maxF == some Ordering.gt) = false
      simpa using abs_not_gt hn
    have HF := hid (finV_num.2 hn)
    go_enter Tryd.func98, Tryd.ntmps98
    go_wp2_with (first | (go_at_call 103; refine (isNaN_any x false h1 _).mono ?_; rintro e w' ⟨rfl, rfl⟩) | (go_at_call 104; refine (isInf_any x hx false h2 _).mono ?_; rintro e w' ⟨rfl, rfl⟩))
    go_ret
    exact ⟨by rw [HF.out]; rfl, rfl⟩
  | infinity s =>
    have h1 : (FloatKind.f64.format.order x x != some Ordering.eq) = false := by
      show (Ieee.double.order x x != some Ordering.eq) = false
      rw [(order_inf hr).2]; rfl
    have h2 : (FloatKind.f64.format.order (absB x) maxF == some Ordering.gt) = true := by
      show (Ieee.double.order (absB x) maxF == some Ordering.gt) = true
      rw [(order_inf hr).1]; rfl
    have HF : Hid (finV x = false) := by unfold finV Hid; rw [hr]
    clear hr
    go_enter Tryd.func98, Tryd.ntmps98
    go_wp2_with (first | (go_at_call 103; refine (isNaN_any x false h1 _).mono ?_; rintro e w' ⟨rfl, rfl⟩) | (go_at_call 104; refine (isInf_any x hx true h2 _).mono ?_; rintro e w' ⟨rfl, rfl⟩))
    go_ret
    exact ⟨by rw [HF.out]; rfl, rfl⟩
  | nan s f =>
    have h1 : (FloatKind.f64.format.order x x != some Ordering.eq) = true := by
      show (Ieee.double.order x x != some Ordering.eq) = true
      rw [order_nan hr]; rfl
    have HF : Hid (finV x = false) := by unfold finV Hid; rw [hr]
    clear hr
    go_enter Tryd.func98, Tryd.ntmps98
    go_wp2_with (first | (go_at_call 103; refine (isNaN_any x true h1 _).mono ?_; rintro e w' ⟨rfl, rfl⟩))
    go_ret
    exact ⟨by rw [HF.out]; rfl, rfl⟩

/-- The word is no number. -/
def Nan (x : Nat) : Prop := ∃ s f, Ieee.double.read x = .nan s f
theorem nan_cut (x y t : Nat) : Nan ((Question.nanBits .f64 x y).cut t) := by
  have h : (Question.nanBits .f64 x y).cut t = (t % 2) * 9223372036854775808 + (9218868437227405313 + (t / 2) % 4503599627370495) := by
    show (t % 2) * 2 ^ 63 + 0x7ff0000000000000 + 1 + (t / 2) % (2 ^ 52 - 1) = _
    omega
  rw [h]
  unfold Nan
  have h1 : ((t % 2) * 9223372036854775808 + (9218868437227405313 + (t / 2) % 4503599627370495)) % 9223372036854775808 = 9218868437227405313 + (t / 2) % 4503599627370495 := by omega
  rw [read_eq, h1, if_neg (by omega), if_neg (by omega), if_neg (by omega)]
  exact ⟨_, _, rfl⟩
/-- An operation that has no answer: a word that is no number, and one draw. -/
theorem run_float_none (op : BinOp) (x y : Nat) (hop : op = .add ∨ op = .sub ∨ op = .mul ∨ op = .quo) (h : floatBits op .f64 x y = none) (w : World) :
    ∃ r, Nan r ∧ (binOp op 22 (.float .f64 x) (.float .f64 y)).run Tryd.prog w = .ok (.float .f64 r) w.drew := by
  refine ⟨(Question.nanBits .f64 x y).cut (w.tape w.drawn (.nanBits .f64 x y)), nan_cut _ _ _, ?_⟩
  unfold floatBits at h
  rcases hop with rfl | rfl | rfl | rfl <;> simp only at h <;> simp [binOp, Op.floatArith, h, Question.forced]

theorem finiteR_num (x : Nat) (hn : Num x) (w : World) : Calls Tryd.prog 97 #[.float .f64 x] w fun e w' => e = .returned (.bool true) ∧ w' = w := by
  have h1 := fun w => hsub (sub_self hn) w
  have h2 : (FloatKind.f64.format.order 0 0 == some Ordering.eq) = true := by decide +kernel
  go_enter Tryd.func97, Tryd.ntmps97
  go_wp2
  go_ret
  exact ⟨rfl, rfl⟩
theorem finiteR_not (x : Nat) (hn : Ieee.double.sub x x = none) (w : World) : Calls Tryd.prog 97 #[.float .f64 x] w fun e w' => e = .returned (.bool false) ∧ w' = w.drew := by
  obtain ⟨r, ⟨s, f, hr⟩, h1⟩ := run_float_none .sub x x (by simp) hn w
  have h2 : (FloatKind.f64.format.order r 0 == some Ordering.eq) = false := by
    show (Ieee.double.order r 0 == some Ordering.eq) = false
    rw [order_nan hr]; rfl
  clear hr hn
  go_enter Tryd.func97, Tryd.ntmps97
  go_wp2
  go_ret
  exact ⟨rfl, rfl⟩
theorem finiteR_any (x : Nat) (w : World) : Calls Tryd.prog 97 #[.float .f64 x] w fun e w' => e = .returned (.bool (finV x)) ∧ ∃ n, w' = w.drewN n := by
  cases hr : Ieee.double.read x with
  | number s m e =>
    have hn : Num x := ⟨s, m, e, hr⟩
    refine (finiteR_num x hn w).mono ?_
    rintro e w' ⟨rfl, rfl⟩
    exact ⟨by rw [finV_num.2 hn], 0, rfl⟩
  | infinity s =>
    refine (finiteR_not x (sub_inf hr) w).mono ?_
    rintro e w' ⟨rfl, rfl⟩
    exact ⟨by unfold finV; rw [hr], 1, rfl⟩
  | nan s f =>
    refine (finiteR_not x (sub_nan hr) w).mono ?_
    rintro e w' ⟨rfl, rfl⟩
    exact ⟨by unfold finV; rw [hr], 1, rfl⟩

theorem uz_any (x : Nat) (w : World) : Calls Tryd.prog 44 #[.float .f64 x] w fun e w' => e = .returned (.float .f64 (uz x)) ∧ w' = w := by
  by_cases h : Ieee.double.order x 0 = some .eq
  · have h1 : (FloatKind.f64.format.order x 0 == some Ordering.eq) = true := by show (Ieee.double.order x 0 == some Ordering.eq) = true; rw [h]; rfl
    have HU : Hid (uz x = 0) := by unfold uz Hid; rw [if_pos h]
    clear h
    go_enter Tryd.func44, Tryd.ntmps44
    go_wp2
    go_ret
    exact ⟨by rw [HU.out]; rfl, rfl⟩
  · have h1 : (FloatKind.f64.format.order x 0 == some Ordering.eq) = false := by show (Ieee.double.order x 0 == some Ordering.eq) = false; simpa using h
    have HU : Hid (uz x = x) := by unfold uz Hid; rw [if_neg h]
    clear h
    go_enter Tryd.func44, Tryd.ntmps44
    go_wp2
    go_ret
    exact ⟨by rw [HU.out]; rfl, rfl⟩

theorem sin_any (a : Int) (w : World) : Calls Tryd.prog 73 #[.int .i64 a] w fun e w' => e = .returned (.float .f64 (uz (sinV (nrm a)))) ∧ Below w.heap.size w w' := by
  go_enter Tryd.func73, Tryd.ntmps73
  go_wp2_with (first | (go_at_call 94; refine (sides_any a _).mono ?_; rintro e w' ⟨rfl, hb⟩) | (go_at_call 44; refine (uz_any _ _).mono ?_; rintro e w2 ⟨rfl, rfl⟩))
  go_ret
  exact ⟨rfl, hb⟩
theorem cos_any (a : Int) (w : World) : Calls Tryd.prog 72 #[.int .i64 a] w fun e w' => e = .returned (.float .f64 (uz (cosV (nrm a)))) ∧ Below w.heap.size w w' := by
  go_enter Tryd.func72, Tryd.ntmps72
  go_wp2_with (first | (go_at_call 94; refine (sides_any a _).mono ?_; rintro e w' ⟨rfl, hb⟩) | (go_at_call 44; refine (uz_any _ _).mono ?_; rintro e w2 ⟨rfl, rfl⟩))
  go_ret
  exact ⟨rfl, hb⟩

theorem same_num (a b : Nat) (ha : Num a) (h : Ieee.double.order a b = some .eq) (w : World) : Calls Tryd.prog 21 #[.float .f64 a, .float .f64 b] w fun e w' => e = .returned (.bool true) ∧ w' = w := by
  have h1 : (FloatKind.f64.format.order a a != some Ordering.eq) = false := by show (Ieee.double.order a a != some Ordering.eq) = false; rw [order_self ha]; rfl
  have h2 : (FloatKind.f64.format.order a b == some Ordering.eq) = true := by show (Ieee.double.order a b == some Ordering.eq) = true; rw [h]; rfl
  clear h
  go_enter Tryd.func21, Tryd.ntmps21
  go_wp2
  go_ret
  exact ⟨rfl, rfl⟩
theorem same_inf (a : Nat) (s : Bool) (ha : Ieee.double.read a = .infinity s) (w : World) : Calls Tryd.prog 21 #[.float .f64 a, .float .f64 a] w fun e w' => e = .returned (.bool true) ∧ w' = w := by
  have h1 : (FloatKind.f64.format.order a a != some Ordering.eq) = false := by show (Ieee.double.order a a != some Ordering.eq) = false; rw [(order_inf ha).2]; rfl
  have h2 : (FloatKind.f64.format.order a a == some Ordering.eq) = true := by show (Ieee.double.order a a == some Ordering.eq) = true; rw [(order_inf ha).2]; rfl
  clear ha
  go_enter Tryd.func21, Tryd.ntmps21
  go_wp2
  go_ret
  exact ⟨rfl, rfl⟩
theorem same_nan (a b : Nat) (ha : Nan a) (hb : Nan b) (w : World) : Calls Tryd.prog 21 #[.float .f64 a, .float .f64 b] w fun e w' => e = .returned (.bool true) ∧ w' = w := by
  obtain ⟨s, f, ha⟩ := ha
  obtain ⟨t, g, hb⟩ := hb
  have h1 : (FloatKind.f64.format.order a a != some Ordering.eq) = true := by show (Ieee.double.order a a != some Ordering.eq) = true; rw [order_nan ha]; rfl
  have h2 : (FloatKind.f64.format.order b b != some Ordering.eq) = true := by show (Ieee.double.order b b != some Ordering.eq) = true; rw [order_nan hb]; rfl
  clear ha hb
  go_enter Tryd.func21, Tryd.ntmps21
  go_wp2
  go_ret
  exact ⟨rfl, rfl⟩
end Go.Proofs.YtmiamfnnccjmeacDoor
