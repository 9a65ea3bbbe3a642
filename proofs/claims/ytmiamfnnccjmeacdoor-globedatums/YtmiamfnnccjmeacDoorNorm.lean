/-
  Angles brought within a turn: grain.Norm, Signed and the reference's own.
-/
import Derived.Test.YtmiamfnnccjmeacDoorSeries
namespace Go.Proofs.YtmiamfnnccjmeacDoor
open Go.RowKit FB

/-- Within a turn, from 0 on. -/
def nrm (a : Int) : Int := a % 360000000000
theorem nrm_lt (a : Int) : 0 ≤ nrm a ∧ nrm a < 360000000000 := by unfold nrm; omega
theorem nrm_neg (a : Int) (h : a.tmod 360000000000 < 0) : a.tmod 360000000000 + 360000000000 = nrm a := by
  unfold nrm
  have ht := Int.tmod_eq_emod (a := a) (b := 360000000000)
  by_cases hc : 0 ≤ a ∨ (360000000000 : Int) ∣ a
  · rw [if_pos hc] at ht
    have := Int.emod_nonneg a (show (360000000000 : Int) ≠ 0 by decide)
    generalize a.tmod 360000000000 = t at *
    omega
  · rw [if_neg hc] at ht
    have e : (((360000000000 : Int).natAbs : Nat) : Int) = 360000000000 := by decide
    rw [e] at ht
    generalize a.tmod 360000000000 = t at *
    omega
theorem nrm_pos (a : Int) (h : ¬ a.tmod 360000000000 < 0) : a.tmod 360000000000 = nrm a := by
  unfold nrm
  have ht := Int.tmod_eq_emod (a := a) (b := 360000000000)
  by_cases hc : 0 ≤ a ∨ (360000000000 : Int) ∣ a
  · rw [if_pos hc] at ht
    generalize a.tmod 360000000000 = t at *
    omega
  · rw [if_neg hc] at ht
    have e : (((360000000000 : Int).natAbs : Nat) : Int) = 360000000000 := by decide
    rw [e] at ht
    have := Int.emod_lt_of_pos a (show (0 : Int) < 360000000000 by decide)
    generalize a.tmod 360000000000 = t at *
    omega
theorem tmod_bd (a : Int) : -360000000000 ≤ a.tmod 360000000000 ∧ a.tmod 360000000000 < 360000000000 := by
  have h1 := nrm_neg a
  have h2 := nrm_pos a
  have h3 := nrm_lt a
  generalize a.tmod 360000000000 = t at h1 h2 ⊢
  by_cases h : t < 0
  · have h4 := h1 h
    constructor <;> omega
  · have h4 := h2 h
    constructor <;> omega

theorem norm_any (a : Int) (w : World) : Calls Tryd.prog 39 #[.int .i64 a] w fun e w' => e = .returned (.int .i64 (nrm a)) ∧ w' = w := by
  have hb := tmod_bd a
  by_cases h : a.tmod 360000000000 < 0
  · have HE : Hid (a.tmod 360000000000 + 360000000000 = nrm a) := nrm_neg a h
    go_enter Tryd.func39, Tryd.ntmps39
    go_wp2
    go_ret
    exact ⟨by rw [← HE.out]; rfl, rfl⟩
  · have HE : Hid (a.tmod 360000000000 = nrm a) := nrm_pos a h
    go_enter Tryd.func39, Tryd.ntmps39
    go_wp2
    go_ret
    exact ⟨by rw [← HE.out]; rfl, rfl⟩
theorem normOf_any (a : Int) (w : World) : Calls Tryd.prog 49 #[.int .i64 a] w fun e w' => e = .returned (.int .i64 (nrm a)) ∧ w' = w := by
  have hb := tmod_bd a
  by_cases h : a.tmod 360000000000 < 0
  · have HE : Hid (a.tmod 360000000000 + 360000000000 = nrm a) := nrm_neg a h
    go_enter Tryd.func49, Tryd.ntmps49
    go_wp2
    go_ret
    exact ⟨by rw [← HE.out]; rfl, rfl⟩
  · have HE : Hid (a.tmod 360000000000 = nrm a) := nrm_pos a h
    go_enter Tryd.func49, Tryd.ntmps49
    go_wp2
    go_ret
    exact ⟨by rw [← HE.out]; rfl, rfl⟩

/-- Above minus half a turn, up to half a turn. -/
def sgn (a : Int) : Int := if 180000000000 < nrm a then nrm a - 360000000000 else nrm a
theorem signed_any (a : Int) (w : World) : Calls Tryd.prog 38 #[.int .i64 a] w fun e w' => e = .returned (.int .i64 (sgn a)) ∧ w' = w := by
  have hb := nrm_lt a
  unfold sgn
  by_cases h : 180000000000 < nrm a
  · rw [if_pos h]
    go_enter Tryd.func38, Tryd.ntmps38
    go_wp2_with (go_at_call 39; refine (norm_any a _).mono ?_; rintro e w' ⟨rfl, rfl⟩)
    go_ret
    exact ⟨rfl, rfl⟩
  · rw [if_neg h]
    go_enter Tryd.func38, Tryd.ntmps38
    go_wp2_with (go_at_call 39; refine (norm_any a _).mono ?_; rintro e w' ⟨rfl, rfl⟩)
    go_ret
    exact ⟨rfl, rfl⟩
theorem signedAngle_any (a : Int) (w : World) : Calls Tryd.prog 48 #[.int .i64 a] w fun e w' => e = .returned (.int .i64 (sgn a)) ∧ w' = w := by
  have hb := nrm_lt a
  unfold sgn
  by_cases h : 180000000000 < nrm a
  · rw [if_pos h]
    have h' : 360000000000 < 2 * nrm a := by omega
    go_enter Tryd.func48, Tryd.ntmps48
    go_wp2_with (go_at_call 49; refine (normOf_any a _).mono ?_; rintro e w' ⟨rfl, rfl⟩)
    go_ret
    exact ⟨rfl, rfl⟩
  · rw [if_neg h]
    have h' : ¬ 360000000000 < 2 * nrm a := by omega
    go_enter Tryd.func48, Tryd.ntmps48
    go_wp2_with (go_at_call 49; refine (normOf_any a _).mono ?_; rintro e w' ⟨rfl, rfl⟩)
    go_ret
    exact ⟨rfl, rfl⟩
end Go.Proofs.YtmiamfnnccjmeacDoor
