/-
  math.Nextafter towards infinity; grain's next words below and above; mercatorref1.Next.
-/
import Derived.Test.YtcbiigmnldcggaaSpanW
namespace Go.Proofs.Ytcbiigmnldcggaa
open Go.RowKit FB

set_option maxHeartbeats 1000000 in
theorem next_pos (x : Nat) (h : NN x) (w : World) : Calls Try.prog 36 #[.float .f64 x, .float .f64 9218868437227405312] w fun e w' => e = .returned (.float .f64 (up1 x)) ∧ w' = w := by
  have HJ := hid (fun w => isNaN_any x false (not_nan h) w)
  have HK := hid (fun w => isNaN_any 9218868437227405312 false (not_nan nn_pinf.1) w)
  have e1 := k_eql h nn_pinf.1
  have e2 := k_eql h nn_zero.1
  have e3 := k_gtr nn_pinf.1 h
  have e4 := k_gtr h nn_zero.1
  rw [nn_pinf.2] at e1 e3
  rw [nn_zero.2] at e2 e4
  have hb := call_bits x
  have f1 : ∀ w, (callFunc 48 #[.int .u64 1]).run Try.prog w = .ok (.value (.float .f64 1)) w := fun w => call_from 1 w
  have hx := h.1
  by_cases c1 : key x = posInf
  · have HD : Hid (up1 x = x) := by unfold up1 Hid; rw [if_pos c1]
    rw [decide_eq_true c1] at e1
    clear c1 e2 e3 e4
    go_enter Try.func36, Try.ntmps36
    go_wp2_with fail
    refine (HJ.out _).mono ?_
    rintro e w1 ⟨rfl, rfl⟩
    go_wp2_with fail
    refine (HK.out _).mono ?_
    rintro e w2 ⟨rfl, rfl⟩
    go_wp2
    go_ret
    exact ⟨by rw [HD.out]; rfl, rfl⟩
  · rw [decide_eq_false c1] at e1
    have hgt : key x < posInf := by have := nn_key_bd h; omega
    rw [decide_eq_true hgt] at e3
    by_cases c2 : key x = 0
    · have HD : Hid (up1 x = 1) := by unfold up1 upW Hid; rw [if_neg c1, if_pos c2]
      rw [decide_eq_true c2] at e2
      clear c1 c2 e3 e4 hgt
      go_enter Try.func36, Try.ntmps36
      go_wp2_with fail
      refine (HJ.out _).mono ?_
      rintro e w1 ⟨rfl, rfl⟩
      go_wp2_with fail
      refine (HK.out _).mono ?_
      rintro e w2 ⟨rfl, rfl⟩
      go_wp2_with (go_at_call 47; refine (copy_pos _).mono ?_; rintro e w3 ⟨rfl, rfl⟩)
      go_ret
      exact ⟨by rw [HD.out]; rfl, rfl⟩
    · rw [decide_eq_false c2] at e2
      by_cases c3 : x < 9223372036854775808
      · have hp : 0 < key x := by unfold key at c2 ⊢; rw [if_pos c3] at c2 ⊢; omega
        have HD : Hid (up1 x = x + 1) := by unfold up1 upW Hid; rw [if_neg c1, if_neg c2, if_pos c3]
        rw [decide_eq_true hp] at e4
        have f2 := call_up x
        have hx2 : x < 18446744073709551615 := by omega
        clear c1 c2 hgt hp
        go_enter Try.func36, Try.ntmps36
        go_wp2_with fail
        refine (HJ.out _).mono ?_
        rintro e w1 ⟨rfl, rfl⟩
        go_wp2_with fail
        refine (HK.out _).mono ?_
        rintro e w2 ⟨rfl, rfl⟩
        go_wp2
        go_ret
        exact ⟨by rw [HD.out]; rfl, rfl⟩
      · have hp : ¬ 0 < key x := by unfold key; rw [if_neg c3]; omega
        have HD : Hid (up1 x = x - 1) := by unfold up1 upW Hid; rw [if_neg c1, if_neg c2, if_neg c3]
        rw [decide_eq_false hp] at e4
        have hx1 : 1 ≤ x := by omega
        have f2 := call_down x hx1
        clear c1 c2 hgt hp
        go_enter Try.func36, Try.ntmps36
        go_wp2_with fail
        refine (HJ.out _).mono ?_
        rintro e w1 ⟨rfl, rfl⟩
        go_wp2_with fail
        refine (HK.out _).mono ?_
        rintro e w2 ⟨rfl, rfl⟩
        go_wp2
        go_ret
        exact ⟨by rw [HD.out]; rfl, rfl⟩

theorem below_any (x : Nat) (h : NN x) (w : World) : Calls Try.prog 20 #[.float .f64 x] w fun e w' => e = .returned (.float .f64 (dn1 x)) ∧ w' = w := by
  go_enter Try.func20, Try.ntmps20
  go_wp2_with (first | (go_at_call 37; refine (inf_neg _).mono ?_; rintro e w' ⟨rfl, rfl⟩) | (go_at_call 36; refine (next_neg x h _).mono ?_; rintro e w' ⟨rfl, rfl⟩))
  go_ret
  exact ⟨rfl, rfl⟩
theorem above_any (x : Nat) (h : NN x) (w : World) : Calls Try.prog 22 #[.float .f64 x] w fun e w' => e = .returned (.float .f64 (up1 x)) ∧ w' = w := by
  go_enter Try.func22, Try.ntmps22
  go_wp2_with (first | (go_at_call 37; refine (inf_pos _).mono ?_; rintro e w' ⟨rfl, rfl⟩) | (go_at_call 36; refine (next_pos x h _).mono ?_; rintro e w' ⟨rfl, rfl⟩))
  go_ret
  exact ⟨rfl, rfl⟩

/-- mercatorref1.Next of a word below infinity: the one a place up. -/
theorem nextR (x : Nat) (h : NN x) (_hk : key x < posInf) (w : World) : Calls Try.prog 38 #[.float .f64 x] w fun e w' => e = .returned (.float .f64 (upW x)) ∧ w' = w := by
  have e2 := k_eql h nn_zero.1
  have e4 := k_gtr h nn_zero.1
  rw [nn_zero.2] at e2 e4
  have hb := call_bits x
  have f1 : ∀ w, (callFunc 48 #[.int .u64 1]).run Try.prog w = .ok (.value (.float .f64 1)) w := fun w => call_from 1 w
  have hx := h.1
  by_cases c2 : key x = 0
  · have HD : Hid (upW x = 1) := by unfold upW Hid; rw [if_pos c2]
    rw [decide_eq_true c2] at e2
    clear c2 e4 _hk
    go_enter Try.func38, Try.ntmps38
    go_wp2
    go_ret
    exact ⟨by rw [HD.out]; rfl, rfl⟩
  · rw [decide_eq_false c2] at e2
    by_cases c3 : x < 9223372036854775808
    · have hp : 0 < key x := by unfold key at c2 ⊢; rw [if_pos c3] at c2 ⊢; omega
      have HD : Hid (upW x = x + 1) := by unfold upW Hid; rw [if_neg c2, if_pos c3]
      rw [decide_eq_true hp] at e4
      have f2 := call_up x
      have hx2 : x < 18446744073709551615 := by omega
      clear c2 hp _hk
      go_enter Try.func38, Try.ntmps38
      go_wp2
      go_ret
      exact ⟨by rw [HD.out]; rfl, rfl⟩
    · have hp : ¬ 0 < key x := by unfold key; rw [if_neg c3]; omega
      have HD : Hid (upW x = x - 1) := by unfold upW Hid; rw [if_neg c2, if_neg c3]
      rw [decide_eq_false hp] at e4
      have hx1 : 1 ≤ x := by omega
      have f2 := call_down x hx1
      clear c2 hp _hk
      go_enter Try.func38, Try.ntmps38
      go_wp2
      go_ret
      exact ⟨by rw [HD.out]; rfl, rfl⟩
end Go.Proofs.Ytcbiigmnldcggaa
