/-
  Both logarithms, of every number.
-/
import Derived.Test.YtkebgnemccaimaaGreatDoorQLnOf
import Derived.Test.YtkebgnemccaimaaGreatDoorQJ2
namespace Go.Proofs.YtkebgnemccaimaaGreatDoor
open Go.RowKit FB

def lnO (x : Nat) : Option Nat :=
  match Ieee.double.read x with
  | .nan _ _ => none
  | .infinity s => if s = true then none else some x
  | .number _ _ _ => if Ieee.double.order x 0 = some .lt then none else if Ieee.double.order x 0 = some .eq then some 18442240474082181120 else some (lnV (lnM x) (lnK x))

theorem nanW : Nan 9221120237041090561 := ⟨false, 2251799813685249, by decide +kernel⟩
theorem inf_word {x : Nat} {s : Bool} (h : Ieee.double.read x = .infinity s) : x % 9223372036854775808 = 9218868437227405312 ∧ s = (x / 9223372036854775808 % 2 == 1) := by
  rw [read_eq] at h
  generalize hr : x % 9223372036854775808 = r at h ⊢
  by_cases c1 : r < 4503599627370496
  · rw [if_pos c1] at h; cases h
  · rw [if_neg c1] at h
    by_cases c2 : r < 9218868437227405312
    · rw [if_pos c2] at h; cases h
    · rw [if_neg c2] at h
      by_cases c3 : r = 9218868437227405312
      · rw [if_pos c3] at h; injection h with h; exact ⟨c3, h.symm⟩
      · rw [if_neg c3] at h; cases h
theorem inf_posw {x : Nat} (hx : x < 18446744073709551616) (h : Ieee.double.read x = .infinity false) : x = 9218868437227405312 := by
  obtain ⟨h1, h2⟩ := inf_word h
  have : ¬ x / 9223372036854775808 % 2 = 1 := by
    intro hc; rw [hc] at h2; cases h2
  omega
theorem pos_word {x : Nat} (hx : x < 18446744073709551616) (hn : Num x) (h1 : Ieee.double.order x 0 ≠ some .lt) (h2 : Ieee.double.order x 0 ≠ some .eq) : 0 < x ∧ x < 9218868437227405312 := by
  have hfin : x % 9223372036854775808 < 9218868437227405312 := by
    obtain ⟨s, m, e, hr⟩ := hn
    rw [read_eq] at hr
    generalize x % 9223372036854775808 = r at hr ⊢
    by_cases c1 : r < 4503599627370496
    · omega
    · rw [if_neg c1] at hr
      by_cases c2 : r < 9218868437227405312
      · exact c2
      · rw [if_neg c2] at hr
        by_cases c3 : r = 9218868437227405312
        · rw [if_pos c3] at hr; cases hr
        · rw [if_neg c3] at hr; cases hr
  rcases ge_zero hx hn h1 with h | ⟨h, _⟩
  · unfold absB at h
    refine ⟨?_, by omega⟩
    rcases Nat.eq_zero_or_pos x with h0 | h0
    · exfalso; apply h2; rw [h0]; decide +kernel
    · exact h0
  · exfalso; apply h2; rw [h]; decide +kernel

theorem eqB {a b : Nat} {o : Ordering} (h : Ieee.double.order a b = some o) (p : Ordering) : (FloatKind.f64.format.order a b == some p) = decide (o = p) := by
  show (Ieee.double.order a b == some p) = _
  rw [h]; cases o <;> cases p <;> rfl

theorem ln_nan (x : Nat) (h : (FloatKind.f64.format.order x x != some Ordering.eq) = true) (w : World) : Calls Tryz.prog 62 #[.float .f64 x] w fun e w' => e = .returned (.float .f64 9221120237041090561) ∧ w' = w := by
  have HJ := hid (fun w => isNaN_any x true h w)
  have HN := hid nan_any
  clear h
  go_enter Tryz.func62, Tryz.ntmps62
  go_wp2_with (first | (go_at_call 107; refine (HJ.out _).mono ?_; rintro e w1 ⟨rfl, rfl⟩) | (go_at_call 108; refine (HN.out _).mono ?_; rintro e w2 ⟨rfl, rfl⟩))
  go_ret
  exact ⟨rfl, rfl⟩
theorem ln_neg (x : Nat) (h : (FloatKind.f64.format.order x x != some Ordering.eq) = false) (h' : (FloatKind.f64.format.order x 0 == some Ordering.lt) = true) (w : World) : Calls Tryz.prog 62 #[.float .f64 x] w fun e w' => e = .returned (.float .f64 9221120237041090561) ∧ w' = w := by
  have HJ := hid (fun w => isNaN_any x false h w)
  have HN := hid nan_any
  clear h
  go_enter Tryz.func62, Tryz.ntmps62
  go_wp2_with (first | (go_at_call 107; refine (HJ.out _).mono ?_; rintro e w1 ⟨rfl, rfl⟩) | (go_at_call 108; refine (HN.out _).mono ?_; rintro e w2 ⟨rfl, rfl⟩))
  go_ret
  exact ⟨rfl, rfl⟩
theorem ln_zero (x : Nat) (h : (FloatKind.f64.format.order x x != some Ordering.eq) = false) (h' : (FloatKind.f64.format.order x 0 == some Ordering.lt) = false) (h3 : (FloatKind.f64.format.order x 0 == some Ordering.eq) = true) (w : World) : Calls Tryz.prog 62 #[.float .f64 x] w fun e w' => e = .returned (.float .f64 18442240474082181120) ∧ w' = w := by
  have HJ := hid (fun w => isNaN_any x false h w)
  have HN := hid inf_neg
  clear h
  go_enter Tryz.func62, Tryz.ntmps62
  go_wp2_with (first | (go_at_call 107; refine (HJ.out _).mono ?_; rintro e w1 ⟨rfl, rfl⟩) | (go_at_call 109; refine (HN.out _).mono ?_; rintro e w2 ⟨rfl, rfl⟩))
  go_ret
  exact ⟨rfl, rfl⟩
theorem ln_inf (w : World) : Calls Tryz.prog 62 #[.float .f64 9218868437227405312] w fun e w' => e = .returned (.float .f64 9218868437227405312) ∧ w' = w := by
  have h : (FloatKind.f64.format.order 9218868437227405312 9218868437227405312 != some Ordering.eq) = false := by decide +kernel
  have h' : (FloatKind.f64.format.order 9218868437227405312 0 == some Ordering.lt) = false := by decide +kernel
  have h3 : (FloatKind.f64.format.order 9218868437227405312 0 == some Ordering.eq) = false := by decide +kernel
  have h4 : (FloatKind.f64.format.order 9218868437227405312 maxF == some Ordering.gt) = true := by decide +kernel
  have HJ := hid (fun w => isNaN_any 9218868437227405312 false h w)
  have HI := hid (fun w => isInf_one 9218868437227405312 true h4 w)
  clear h h4
  go_enter Tryz.func62, Tryz.ntmps62
  go_wp2_with (first | (go_at_call 107; refine (HJ.out _).mono ?_; rintro e w1 ⟨rfl, rfl⟩) | (go_at_call 110; refine (HI.out _).mono ?_; rintro e w2 ⟨rfl, rfl⟩))
  go_ret
  exact ⟨rfl, rfl⟩

theorem lnOf_nan (x : Nat) (h : (FloatKind.f64.format.order x x != some Ordering.eq) = true) (w : World) : Calls Tryz.prog 68 #[.float .f64 x] w fun e w' => e = .returned (.float .f64 9221120237041090561) ∧ w' = w := by
  have HN := hid nan_any
  go_enter Tryz.func68, Tryz.ntmps68
  go_wp2_with (first | (go_at_call 108; refine (HN.out _).mono ?_; rintro e w2 ⟨rfl, rfl⟩))
  go_ret
  exact ⟨rfl, rfl⟩
theorem lnOf_neg (x : Nat) (h : (FloatKind.f64.format.order x x != some Ordering.eq) = false) (h' : (FloatKind.f64.format.order x 0 == some Ordering.lt) = true) (w : World) : Calls Tryz.prog 68 #[.float .f64 x] w fun e w' => e = .returned (.float .f64 9221120237041090561) ∧ w' = w := by
  have HN := hid nan_any
  go_enter Tryz.func68, Tryz.ntmps68
  go_wp2_with (first | (go_at_call 108; refine (HN.out _).mono ?_; rintro e w2 ⟨rfl, rfl⟩))
  go_ret
  exact ⟨rfl, rfl⟩
theorem lnOf_zero (x : Nat) (h : (FloatKind.f64.format.order x x != some Ordering.eq) = false) (h' : (FloatKind.f64.format.order x 0 == some Ordering.lt) = false) (h3 : (FloatKind.f64.format.order x 0 == some Ordering.eq) = true) (w : World) : Calls Tryz.prog 68 #[.float .f64 x] w fun e w' => e = .returned (.float .f64 18442240474082181120) ∧ w' = w := by
  have HN := hid inf_neg
  go_enter Tryz.func68, Tryz.ntmps68
  go_wp2_with (first | (go_at_call 109; refine (HN.out _).mono ?_; rintro e w2 ⟨rfl, rfl⟩))
  go_ret
  exact ⟨rfl, rfl⟩
theorem lnOf_inf (w : World) : Calls Tryz.prog 68 #[.float .f64 9218868437227405312] w fun e w' => e = .returned (.float .f64 9218868437227405312) ∧ w' = w.drew := by
  have h : (FloatKind.f64.format.order 9218868437227405312 9218868437227405312 != some Ordering.eq) = false := by decide +kernel
  have h' : (FloatKind.f64.format.order 9218868437227405312 0 == some Ordering.lt) = false := by decide +kernel
  have h3 : (FloatKind.f64.format.order 9218868437227405312 0 == some Ordering.eq) = false := by decide +kernel
  have HI := hid (fun w => finiteR_not 9218868437227405312 (by decide +kernel) w)
  go_enter Tryz.func68, Tryz.ntmps68
  go_wp2_with (first | (go_at_call 114; refine (HI.out _).mono ?_; rintro e w2 ⟨rfl, rfl⟩))
  go_ret
  exact ⟨rfl, rfl⟩

theorem ln_any (x : Nat) (hx : x < 18446744073709551616) (w : World) :
    (Calls Tryz.prog 62 #[.float .f64 x] w fun e w' => ∃ r, e = .returned (.float .f64 r) ∧ Got (lnO x) r ∧ Below w.heap.size w w') ∧
    (Calls Tryz.prog 68 #[.float .f64 x] w fun e w' => ∃ r, e = .returned (.float .f64 r) ∧ Got (lnO x) r ∧ Below w.heap.size w w') := by
  have hnone : lnO x = none → Got (lnO x) 9221120237041090561 := fun h => by rw [h]; exact nanW
  have hsome : ∀ {q}, lnO x = some q → Got (lnO x) q := fun h => by rw [h]; rfl
  cases hr : Ieee.double.read x with
  | nan s f =>
    have hb : (FloatKind.f64.format.order x x != some Ordering.eq) = true := by show (Ieee.double.order x x != _) = _; rw [order_nan hr]; rfl
    have hO : lnO x = none := by unfold lnO; rw [hr]
    exact ⟨(ln_nan x hb w).mono fun e w' h => ⟨_, h.1, hnone hO, by rw [h.2]; exact Below.refl _ _⟩, (lnOf_nan x hb w).mono fun e w' h => ⟨_, h.1, hnone hO, by rw [h.2]; exact Below.refl _ _⟩⟩
  | infinity s =>
    have hb : (FloatKind.f64.format.order x x != some Ordering.eq) = false := by show (Ieee.double.order x x != _) = _; rw [(order_inf hr).2]; rfl
    cases s with
    | true =>
      have hO : lnO x = none := by unfold lnO; rw [hr]; rfl
      have hl : (FloatKind.f64.format.order x 0 == some Ordering.lt) = true := by
        show (Ieee.double.order x 0 == _) = _
        unfold Ieee.Format.order; rw [hr, show Ieee.double.read 0 = .number false 0 (-1074) by decide +kernel]; rfl
      exact ⟨(ln_neg x hb hl w).mono fun e w' h => ⟨_, h.1, hnone hO, by rw [h.2]; exact Below.refl _ _⟩, (lnOf_neg x hb hl w).mono fun e w' h => ⟨_, h.1, hnone hO, by rw [h.2]; exact Below.refl _ _⟩⟩
    | false =>
      have hO : lnO x = some x := by unfold lnO; rw [hr]; rfl
      have hw := inf_posw hx hr
      have hg := hsome hO
      rw [hw] at hg ⊢
      exact ⟨(ln_inf w).mono fun e w' h => ⟨_, h.1, hg, by rw [h.2]; exact Below.refl _ _⟩, (lnOf_inf w).mono fun e w' h => ⟨_, h.1, hg, by rw [h.2]; exact (Below.refl _ _).drew⟩⟩
  | number s m e =>
    have hn : Num x := ⟨s, m, e, hr⟩
    have hb : (FloatKind.f64.format.order x x != some Ordering.eq) = false := by show (Ieee.double.order x x != _) = _; rw [order_self hn]; rfl
    by_cases h1 : Ieee.double.order x 0 = some .lt
    · have hO : lnO x = none := by unfold lnO; rw [hr]; simp only [h1, if_true]
      have hl := eqB h1 .lt
      exact ⟨(ln_neg x hb hl w).mono fun e w' h => ⟨_, h.1, hnone hO, by rw [h.2]; exact Below.refl _ _⟩, (lnOf_neg x hb hl w).mono fun e w' h => ⟨_, h.1, hnone hO, by rw [h.2]; exact Below.refl _ _⟩⟩
    · by_cases h2 : Ieee.double.order x 0 = some .eq
      · have hO : lnO x = some 18442240474082181120 := by unfold lnO; rw [hr]; simp only [h2, if_true]; rfl
        have hl := eqB h2 .lt
        have he := eqB h2 .eq
        exact ⟨(ln_zero x hb hl he w).mono fun e w' h => ⟨_, h.1, hsome hO, by rw [h.2]; exact Below.refl _ _⟩, (lnOf_zero x hb hl he w).mono fun e w' h => ⟨_, h.1, hsome hO, by rw [h.2]; exact Below.refl _ _⟩⟩
      · obtain ⟨p1, p2⟩ := pos_word hx hn h1 h2
        have hO : lnO x = some (lnV (lnM x) (lnK x)) := by unfold lnO; rw [hr]; simp only [h1, h2, if_false]
        exact ⟨(ln_pos x p1 p2 w).mono fun e w' h => ⟨_, h.1, hsome hO, h.2⟩, (lnOf_pos x p1 p2 w).mono fun e w' h => ⟨_, h.1, hsome hO, by rw [h.2]; exact Below.refl _ _⟩⟩
end Go.Proofs.YtkebgnemccaimaaGreatDoor
