/-
  Both logarithms, of every number: a word of 64 bits.
-/
import Derived.Test.YtinopkmcddjgdaaGreatDoorQFtA
namespace Go.Proofs.YtinopkmcddjgdaaGreatDoor
open Go.RowKit FB

theorem ln_anyW (x : Nat) (hx : x < 18446744073709551616) (w : World) :
    (Calls Tryz.prog 82 #[.float .f64 x] w fun e w' => ∃ r, e = .returned (.float .f64 r) ∧ GW (lnO x) r ∧ Below w.heap.size w w') ∧
    (Calls Tryz.prog 78 #[.float .f64 x] w fun e w' => ∃ r, e = .returned (.float .f64 r) ∧ GW (lnO x) r ∧ Below w.heap.size w w') := by
  have hnone : lnO x = none → GW (lnO x) 9221120237041090561 := fun h => ⟨by rw [h]; exact nanW, by decide⟩
  have hsome : ∀ {q}, lnO x = some q → q < 18446744073709551616 → GW (lnO x) q := fun h hq => ⟨by rw [h]; rfl, hq⟩
  cases hr : Ieee.double.read x with
  | nan s f =>
    have hb : (FloatKind.f64.format.order x x != some Ordering.eq) = true := by show (Ieee.double.order x x != _) = _; rw [order_nan hr]; rfl
    have hO : lnO x = none := by unfold lnO; rw [hr]
    exact ⟨(ln_nan x hb w).mono fun e w' h => ⟨_, h.1, hnone hO, by rw [h.2]; exact Below.refl _ _⟩, (lnOf_nan x hb w).mono fun e w' h => ⟨_, h.1, hnone hO, by rw [h.2]; exact Below.refl _ _⟩⟩
  | infinity s =>
    have hb : (FloatKind.f64.format.order x x != some Ordering.eq) = false := by show (Ieee.double.order x x != _) = _; rw [(order_inf hr).2]; rfl
    cases s with
    | true =>
      have hO : lnO x = none := by unfold lnO; rw [hr]; rfl
      have hl : (FloatKind.f64.format.order x 0 == some Ordering.lt) = true := by
        show (Ieee.double.order x 0 == _) = _
        unfold Ieee.Format.order; rw [hr, show Ieee.double.read 0 = .number false 0 (-1074) by decide +kernel]; rfl
      exact ⟨(ln_neg x hb hl w).mono fun e w' h => ⟨_, h.1, hnone hO, by rw [h.2]; exact Below.refl _ _⟩, (lnOf_neg x hb hl w).mono fun e w' h => ⟨_, h.1, hnone hO, by rw [h.2]; exact Below.refl _ _⟩⟩
    | false =>
      have hO : lnO x = some x := by unfold lnO; rw [hr]; rfl
      have hw := inf_posw hx hr
      have hg := hsome hO hx
      rw [hw] at hg ⊢
      exact ⟨(ln_inf w).mono fun e w' h => ⟨_, h.1, hg, by rw [h.2]; exact Below.refl _ _⟩, (lnOf_inf w).mono fun e w' h => ⟨_, h.1, hg, by rw [h.2]; exact (Below.refl _ _).drew⟩⟩
  | number s m e =>
    have hn : Num x := ⟨s, m, e, hr⟩
    have hb : (FloatKind.f64.format.order x x != some Ordering.eq) = false := by show (Ieee.double.order x x != _) = _; rw [order_self hn]; rfl
    by_cases h1 : Ieee.double.order x 0 = some .lt
    · have hO : lnO x = none := by unfold lnO; rw [hr]; simp only [h1, if_true]
      have hl := eqB h1 .lt
      exact ⟨(ln_neg x hb hl w).mono fun e w' h => ⟨_, h.1, hnone hO, by rw [h.2]; exact Below.refl _ _⟩, (lnOf_neg x hb hl w).mono fun e w' h => ⟨_, h.1, hnone hO, by rw [h.2]; exact Below.refl _ _⟩⟩
    · by_cases h2 : Ieee.double.order x 0 = some .eq
      · have hO : lnO x = some 18442240474082181120 := by unfold lnO; rw [hr]; simp only [h2, if_true]; rfl
        have hl := eqB h2 .lt
        have he := eqB h2 .eq
        exact ⟨(ln_zero x hb hl he w).mono fun e w' h => ⟨_, h.1, hsome hO (by decide), by rw [h.2]; exact Below.refl _ _⟩, (lnOf_zero x hb hl he w).mono fun e w' h => ⟨_, h.1, hsome hO (by decide), by rw [h.2]; exact Below.refl _ _⟩⟩
      · obtain ⟨p1, p2⟩ := pos_word hx hn h1 h2
        have hO : lnO x = some (lnV (lnM x) (lnK x)) := by unfold lnO; rw [hr]; simp only [h1, h2, if_false]
        have hlt : lnV (lnM x) (lnK x) < 18446744073709551616 := add_lt (ln_ok (lnM x) (lnK x) (lnM_bd p1).2 (lnK_bd p1 p2).1 (lnK_bd p1 p2).2).r
        exact ⟨(ln_pos x p1 p2 w).mono fun e w' h => ⟨_, h.1, hsome hO hlt, h.2⟩, (lnOf_pos x p1 p2 w).mono fun e w' h => ⟨_, h.1, hsome hO hlt, by rw [h.2]; exact Below.refl _ _⟩⟩
theorem gw_oL {o : Option Nat} {x r : Nat} (h : GW o x) (hr : GW (lnO x) r) : GW (oL o) r := ⟨got_oL h.1 hr.1, hr.2⟩
theorem lnPW (o : Option Nat) (x : Nat) (h : GW o x) (w : World) : Calls Tryz.prog 82 #[.float .f64 x] w fun e w' => ∃ r, e = .returned (.float .f64 r) ∧ GW (oL o) r ∧ Below w.heap.size w w' := by
  refine (ln_anyW x h.2 w).1.mono ?_
  rintro e w' ⟨r, rfl, hr, hB⟩
  exact ⟨r, rfl, gw_oL h hr, hB⟩
theorem lnRW (o : Option Nat) (x : Nat) (h : GW o x) (w : World) : Calls Tryz.prog 78 #[.float .f64 x] w fun e w' => ∃ r, e = .returned (.float .f64 r) ∧ GW (oL o) r ∧ Below w.heap.size w w' := by
  refine (ln_anyW x h.2 w).2.mono ?_
  rintro e w' ⟨r, rfl, hr, hB⟩
  exact ⟨r, rfl, gw_oL h hr, hB⟩
end Go.Proofs.YtinopkmcddjgdaaGreatDoor
