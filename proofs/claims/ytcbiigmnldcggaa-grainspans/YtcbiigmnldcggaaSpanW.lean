/-
  The next words: math.Nextafter towards the infinities, mercatorref1.Next.
-/
import Derived.Test.YtcbiigmnldcggaaSpanK
namespace Go.Proofs.Ytcbiigmnldcggaa
open Go.RowKit FB

theorem inf_neg (w : World) : Calls Try.prog 37 #[.int .i64 (-1)] w fun e w' => e = .returned (.float .f64 18442240474082181120) ∧ w' = w := by
  have h2 : ∀ w, (callFunc 48 #[.int .u64 18442240474082181120]).run Try.prog w = .ok (.value (.float .f64 18442240474082181120)) w := fun w => call_from 18442240474082181120 w
  go_enter Try.func37, Try.ntmps37
  go_wp2
  go_ret
  exact ⟨rfl, rfl⟩
theorem inf_pos (w : World) : Calls Try.prog 37 #[.int .i64 1] w fun e w' => e = .returned (.float .f64 9218868437227405312) ∧ w' = w := by
  have h2 : ∀ w, (callFunc 48 #[.int .u64 9218868437227405312]).run Try.prog w = .ok (.value (.float .f64 9218868437227405312)) w := fun w => call_from 9218868437227405312 w
  go_enter Try.func37, Try.ntmps37
  go_wp2
  go_ret
  exact ⟨rfl, rfl⟩
theorem copy_neg (w : World) : Calls Try.prog 47 #[.float .f64 1, .float .f64 18442240474082181120] w fun e w' => e = .returned (.float .f64 9223372036854775809) ∧ w' = w := by
  have b1 : ∀ w, (callFunc 28 #[.float .f64 1]).run Try.prog w = .ok (.value (.int .u64 1)) w := fun w => call_bits 1 w
  have b2 : ∀ w, (callFunc 28 #[.float .f64 18442240474082181120]).run Try.prog w = .ok (.value (.int .u64 18442240474082181120)) w := fun w => call_bits 18442240474082181120 w
  have b3 : ∀ w, (callFunc 48 #[.int .u64 9223372036854775809]).run Try.prog w = .ok (.value (.float .f64 9223372036854775809)) w := fun w => call_from 9223372036854775809 w
  have m1 : bits .andNot .u64 1 9223372036854775808 = 1 := by decide +kernel
  have m2 : bits .and .u64 18442240474082181120 9223372036854775808 = 9223372036854775808 := by decide +kernel
  have m3 : bits .or .u64 1 9223372036854775808 = 9223372036854775809 := by decide +kernel
  go_enter Try.func47, Try.ntmps47
  go_wp2
  go_ret
  exact ⟨rfl, rfl⟩
theorem copy_pos (w : World) : Calls Try.prog 47 #[.float .f64 1, .float .f64 9218868437227405312] w fun e w' => e = .returned (.float .f64 1) ∧ w' = w := by
  have b1 : ∀ w, (callFunc 28 #[.float .f64 1]).run Try.prog w = .ok (.value (.int .u64 1)) w := fun w => call_bits 1 w
  have b2 : ∀ w, (callFunc 28 #[.float .f64 9218868437227405312]).run Try.prog w = .ok (.value (.int .u64 9218868437227405312)) w := fun w => call_bits 9218868437227405312 w
  have b3 : ∀ w, (callFunc 48 #[.int .u64 1]).run Try.prog w = .ok (.value (.float .f64 1)) w := fun w => call_from 1 w
  have m1 : bits .andNot .u64 1 9223372036854775808 = 1 := by decide +kernel
  have m2 : bits .and .u64 9218868437227405312 9223372036854775808 = 0 := by decide +kernel
  have m3 : bits .or .u64 1 0 = 1 := by decide +kernel
  go_enter Try.func47, Try.ntmps47
  go_wp2
  go_ret
  exact ⟨rfl, rfl⟩

theorem nn_ninf : NN 18442240474082181120 ∧ key 18442240474082181120 = -posInf := ⟨⟨by decide, by decide⟩, by decide⟩
theorem nn_pinf : NN 9218868437227405312 ∧ key 9218868437227405312 = posInf := ⟨⟨by decide, by decide⟩, by decide⟩
theorem call_up (x : Nat) (w : World) : (callFunc 48 #[.int .u64 ((x : Int) + 1)]).run Try.prog w = .ok (.value (.float .f64 (x + 1))) w := call_from (x + 1) w
theorem call_down (x : Nat) (h : 1 ≤ x) (w : World) : (callFunc 48 #[.int .u64 ((x : Int) - 1)]).run Try.prog w = .ok (.value (.float .f64 (x - 1))) w := by
  rw [show (x : Int) - 1 = ((x - 1 : Nat) : Int) by omega]; exact call_from (x - 1) w
theorem not_nan {x : Nat} (h : NN x) : (FloatKind.f64.format.order x x != some Ordering.eq) = false := by rw [k_neq h h]; simp

/-- The word one place down; minus infinity stays. -/
def dn1 (x : Nat) : Nat := if key x = -posInf then x else downW x
def up1 (x : Nat) : Nat := if key x = posInf then x else upW x
theorem dn1_key {x : Nat} (h : NN x) : NN (dn1 x) ∧ key (dn1 x) = if key x = -posInf then -posInf else key x - 1 := by
  unfold dn1
  split
  · rename_i c; exact ⟨h, c⟩
  · rename_i c; exact downW_key h (by have := nn_key_bd h; omega)
theorem up1_key {x : Nat} (h : NN x) : NN (up1 x) ∧ key (up1 x) = if key x = posInf then posInf else key x + 1 := by
  unfold up1
  split
  · rename_i c; exact ⟨h, c⟩
  · rename_i c; exact upW_key h (by have := nn_key_bd h; omega)

set_option maxHeartbeats 1000000 in
theorem next_neg (x : Nat) (h : NN x) (w : World) : Calls Try.prog 36 #[.float .f64 x, .float .f64 18442240474082181120] w fun e w' => e = .returned (.float .f64 (dn1 x)) ∧ w' = w := by
  have HJ := hid (fun w => isNaN_any x false (not_nan h) w)
  have HK := hid (fun w => isNaN_any 18442240474082181120 false (not_nan nn_ninf.1) w)
  have e1 := k_eql h nn_ninf.1
  have e2 := k_eql h nn_zero.1
  have e3 := k_gtr nn_ninf.1 h
  have e4 := k_gtr h nn_zero.1
  rw [nn_ninf.2] at e1 e3
  rw [nn_zero.2] at e2 e4
  have hb := call_bits x
  have f1 : ∀ w, (callFunc 48 #[.int .u64 1]).run Try.prog w = .ok (.value (.float .f64 1)) w := fun w => call_from 1 w
  have hx := h.1
  by_cases c1 : key x = -posInf
  · have HD : Hid (dn1 x = x) := by unfold dn1 Hid; rw [if_pos c1]
    rw [decide_eq_true c1] at e1
    clear c1 e2 e3 e4
    go_enter Try.func36, Try.ntmps36
    go_wp2_with fail
    refine (HJ.out _).mono ?_
    rintro e w1 ⟨rfl, rfl⟩
    go_wp2_with fail
    refine (HK.out _).mono ?_
    rintro e w2 ⟨rfl, rfl⟩
    go_wp2
    go_ret
    exact ⟨by rw [HD.out]; rfl, rfl⟩
  · rw [decide_eq_false c1] at e1
    have hgt : ¬ key x < -posInf := by have := nn_key_bd h; omega
    rw [decide_eq_false hgt] at e3
    by_cases c2 : key x = 0
    · have HD : Hid (dn1 x = 9223372036854775809) := by unfold dn1 downW Hid; rw [if_neg c1, if_pos c2]
      rw [decide_eq_true c2] at e2
      clear c1 c2 e3 e4 hgt
      go_enter Try.func36, Try.ntmps36
      go_wp2_with fail
      refine (HJ.out _).mono ?_
      rintro e w1 ⟨rfl, rfl⟩
      go_wp2_with fail
      refine (HK.out _).mono ?_
      rintro e w2 ⟨rfl, rfl⟩
      go_wp2_with (go_at_call 47; refine (copy_neg _).mono ?_; rintro e w3 ⟨rfl, rfl⟩)
      go_ret
      exact ⟨by rw [HD.out]; rfl, rfl⟩
    · rw [decide_eq_false c2] at e2
      by_cases c3 : x < 9223372036854775808
      · have hp : 0 < key x := by unfold key at c2 ⊢; rw [if_pos c3] at c2 ⊢; omega
        have HD : Hid (dn1 x = x - 1) := by unfold dn1 downW Hid; rw [if_neg c1, if_neg c2, if_pos c3]
        rw [decide_eq_true hp] at e4
        have hx1 : 1 ≤ x := by unfold key at hp; rw [if_pos c3] at hp; omega
        have f2 := call_down x hx1
        clear c1 c2 hgt hp
        go_enter Try.func36, Try.ntmps36
        go_wp2_with fail
        refine (HJ.out _).mono ?_
        rintro e w1 ⟨rfl, rfl⟩
        go_wp2_with fail
        refine (HK.out _).mono ?_
        rintro e w2 ⟨rfl, rfl⟩
        go_wp2
        go_ret
        exact ⟨by rw [HD.out]; rfl, rfl⟩
      · have hp : ¬ 0 < key x := by unfold key; rw [if_neg c3]; omega
        have HD : Hid (dn1 x = x + 1) := by unfold dn1 downW Hid; rw [if_neg c1, if_neg c2, if_neg c3]
        rw [decide_eq_false hp] at e4
        have f2 := call_up x
        have hx2 : x < 18446744073709551615 := by have := h.2; omega
        clear c1 c2 hgt hp
        go_enter Try.func36, Try.ntmps36
        go_wp2_with fail
        refine (HJ.out _).mono ?_
        rintro e w1 ⟨rfl, rfl⟩
        go_wp2_with fail
        refine (HK.out _).mono ?_
        rintro e w2 ⟨rfl, rfl⟩
        go_wp2
        go_ret
        exact ⟨by rw [HD.out]; rfl, rfl⟩
end Go.Proofs.Ytcbiigmnldcggaa
