/-
  Zones: grain.Norm, mercatorref1.SignedAngle, grid.Zone, Middle, mercatorref2.ZoneOf.
-/
import Derived.Test.YtfahmaapodoaaaaGreatDoorQGqZ
import Derived.BigQuiet
import Derived.Deep.QuietTactic
import Derived.Deep.CutRange
import Derived.Deep.RegionHeld3
namespace Go.Proofs.YtfahmaapodoaaaaGreatDoor
open Go.RowKit

/-- Within a turn, from 0 on. -/
def nrm (a : Int) : Int := a % 360000000000
theorem nrm_lt (a : Int) : 0 ≤ nrm a ∧ nrm a < 360000000000 := by unfold nrm; omega
theorem nrm_neg (a : Int) (h : a.tmod 360000000000 < 0) : a.tmod 360000000000 + 360000000000 = nrm a := by
  unfold nrm
  have ht := Int.tmod_eq_emod (a := a) (b := 360000000000)
  by_cases hc : 0 ≤ a ∨ (360000000000 : Int) ∣ a
  · rw [if_pos hc] at ht
    have := Int.emod_nonneg a (show (360000000000 : Int) ≠ 0 by decide)
    generalize a.tmod 360000000000 = t at *
    omega
  · rw [if_neg hc] at ht
    have e : (((360000000000 : Int).natAbs : Nat) : Int) = 360000000000 := by decide
    rw [e] at ht
    generalize a.tmod 360000000000 = t at *
    omega
theorem nrm_pos (a : Int) (h : ¬ a.tmod 360000000000 < 0) : a.tmod 360000000000 = nrm a := by
  unfold nrm
  have ht := Int.tmod_eq_emod (a := a) (b := 360000000000)
  by_cases hc : 0 ≤ a ∨ (360000000000 : Int) ∣ a
  · rw [if_pos hc] at ht
    generalize a.tmod 360000000000 = t at *
    omega
  · rw [if_neg hc] at ht
    have e : (((360000000000 : Int).natAbs : Nat) : Int) = 360000000000 := by decide
    rw [e] at ht
    have := Int.emod_lt_of_pos a (show (0 : Int) < 360000000000 by decide)
    generalize a.tmod 360000000000 = t at *
    omega
theorem tmod_bd (a : Int) : -360000000000 ≤ a.tmod 360000000000 ∧ a.tmod 360000000000 < 360000000000 := by
  have h1 := nrm_neg a
  have h2 := nrm_pos a
  have h3 := nrm_lt a
  generalize a.tmod 360000000000 = t at h1 h2 ⊢
  by_cases h : t < 0
  · have h4 := h1 h
    constructor <;> omega
  · have h4 := h2 h
    constructor <;> omega

theorem norm_any (a : Int) (w : World) : Calls Tryz.prog 20 #[.int .i64 a] w fun e w' => e = .returned (.int .i64 (nrm a)) ∧ w' = w := by
  have hb := tmod_bd a
  by_cases h : a.tmod 360000000000 < 0
  · have HE : Hid (a.tmod 360000000000 + 360000000000 = nrm a) := nrm_neg a h
    go_enter Tryz.func20, Tryz.ntmps20
    go_wp2
    go_ret
    exact ⟨by rw [← HE.out]; rfl, rfl⟩
  · have HE : Hid (a.tmod 360000000000 = nrm a) := nrm_pos a h
    go_enter Tryz.func20, Tryz.ntmps20
    go_wp2
    go_ret
    exact ⟨by rw [← HE.out]; rfl, rfl⟩
theorem normOf_any (a : Int) (w : World) : Calls Tryz.prog 33 #[.int .i64 a] w fun e w' => e = .returned (.int .i64 (nrm a)) ∧ w' = w := by
  have hb := tmod_bd a
  by_cases h : a.tmod 360000000000 < 0
  · have HE : Hid (a.tmod 360000000000 + 360000000000 = nrm a) := nrm_neg a h
    go_enter Tryz.func33, Tryz.ntmps33
    go_wp2
    go_ret
    exact ⟨by rw [← HE.out]; rfl, rfl⟩
  · have HE : Hid (a.tmod 360000000000 = nrm a) := nrm_pos a h
    go_enter Tryz.func33, Tryz.ntmps33
    go_wp2
    go_ret
    exact ⟨by rw [← HE.out]; rfl, rfl⟩

/-- Above minus half a turn, up to half a turn. -/
def sgn (a : Int) : Int := if 180000000000 < nrm a then nrm a - 360000000000 else nrm a
theorem signedAngle_any (a : Int) (w : World) : Calls Tryz.prog 21 #[.int .i64 a] w fun e w' => e = .returned (.int .i64 (sgn a)) ∧ w' = w := by
  have hb := nrm_lt a
  unfold sgn
  by_cases h : 180000000000 < nrm a
  · rw [if_pos h]
    have h' : 360000000000 < 2 * nrm a := by omega
    go_enter Tryz.func21, Tryz.ntmps21
    go_wp2_with (go_at_call 33; refine (normOf_any a _).mono ?_; rintro e w' ⟨rfl, rfl⟩)
    go_ret
    exact ⟨rfl, rfl⟩
  · rw [if_neg h]
    have h' : ¬ 360000000000 < 2 * nrm a := by omega
    go_enter Tryz.func21, Tryz.ntmps21
    go_wp2_with (go_at_call 33; refine (normOf_any a _).mono ?_; rintro e w' ⟨rfl, rfl⟩)
    go_ret
    exact ⟨rfl, rfl⟩

/-- A zone. -/
def zn (a : Int) : Int := nrm (nrm a + 180000000000) / 6000000000 + 1
theorem zn_bd (a : Int) : 1 ≤ zn a ∧ zn a ≤ 60 := by
  have h := nrm_lt (nrm a + 180000000000)
  unfold zn
  generalize nrm (nrm a + 180000000000) = t at h
  omega
theorem zn_half (a : Int) (h : sgn a = 180000000000) : zn a = 1 := by
  unfold sgn at h
  unfold zn
  have h1 := nrm_lt a
  have h2 : nrm a = 180000000000 := by split at h <;> omega
  rw [h2]
  decide
theorem zn_sgn (a : Int) (h : ¬ sgn a = 180000000000) : zn a = (sgn a + 180000000000) / 6000000000 + 1 ∧ -180000000000 < sgn a ∧ sgn a < 180000000000 := by
  unfold sgn at *
  unfold zn
  have h1 := nrm_lt a
  generalize nrm a = r at *
  unfold nrm
  split at h
  · rw [if_pos (by assumption)]
    refine ⟨?_, by omega, by omega⟩
    rw [show (r + 180000000000) % 360000000000 = r - 360000000000 + 180000000000 by omega]
  · rw [if_neg (by assumption)]
    refine ⟨?_, by omega, by omega⟩
    rw [show (r + 180000000000) % 360000000000 = r + 180000000000 by omega]
theorem zone_any (a : Int) (w : World) : Calls Tryz.prog 7 #[.int .i64 a] w fun e w' => e = .returned (.int .i64 (zn a)) ∧ w' = w := by
  have H1 := hidb (fun w => norm_any a w)
  have H2 := hidb (fun w => norm_any (nrm a + 180000000000) w)
  have b1 := nrm_lt a
  have b2 := nrm_lt (nrm a + 180000000000)
  obtain ⟨r, hr⟩ : ∃ r, nrm a = r := ⟨_, rfl⟩
  obtain ⟨t, ht⟩ : ∃ t, nrm (r + 180000000000) = t := ⟨_, rfl⟩
  have e1 : IntKind.i64.wrap (r + 180000000000) = r + 180000000000 := wrq (by omega) (by omega)
  rw [hr] at H1 H2 b1 b2
  rw [ht] at H2 b2
  have HZ : Hid (zn a = t / 6000000000 + 1) := by show _ = _; unfold zn; rw [hr, ht]
  have e2 : t.tdiv 6000000000 = t / 6000000000 := Int.tdiv_eq_ediv_of_nonneg b2.1
  obtain ⟨q, hq⟩ : ∃ q, t / 6000000000 = q := ⟨_, rfl⟩
  rw [hq] at e2 HZ
  have e3 : IntKind.i64.wrap (q + 1) = q + 1 := wrq (by omega) (by omega)
  have e4 : IntKind.i64.wrap q = q := wrq (by omega) (by omega)
  clear hr ht hq b1 b2
  go_enter Tryz.func7, Tryz.ntmps7
  go_wp2_with fail
  refine (H1.out _).mono ?_
  rintro e w1 ⟨rfl, rfl⟩
  go_wp2_with fail
  refine (H2.out _).mono ?_
  rintro e w1 ⟨rfl, rfl⟩
  go_wp2
  go_ret
  exact ⟨by rw [HZ.out]; rfl, rfl⟩
theorem middle_ok (z : Int) (h1 : 1 ≤ z) (h2 : z ≤ 60) (w : World) : Calls Tryz.prog 5 #[.int .i64 z] w fun e w' => e = .returned (.tuple #[.int .i64 ((6 * z - 183) * 1000000000), .nilIface]) ∧ w' = w := by
  have e1 : ¬ z < 1 := by omega
  have e2 : ¬ 60 < z := by omega
  have HE : Hid ((z - 1) * 6000000000 + 3000000000 - 180000000000 = (6 * z - 183) * 1000000000) := by show _ = _; omega
  go_enter Tryz.func5, Tryz.ntmps5
  go_wp2
  go_ret2
  exact ⟨by rw [← HE.out]; rfl, rfl⟩
theorem middle_no (g : Nat → Addr) (z : Int) (h : z < 1 ∨ 60 < z) (w : World) (hl : Laid w g) : Calls Tryz.prog 5 #[.int .i64 z] w fun e w' => e = .returned (.tuple #[.int .i64 0, errV g 3]) ∧ Gr w w' := by
  have c3 : w.cell? ⟨0, 0, none⟩ = some (.iface 141 (.pointer (some (g 3)))) := hl.cell 3 (by decide)
  clear hl
  rcases h with h | h
  · go_enter Tryz.func5, Tryz.ntmps5
    go_upto_region 2 with fail
    go_quiet (fail)
    go_wp2_with fail
    go_ret2
    exact ⟨rfl, by ((with_reducible repeat' (first | assumption | refine Gr.drewN ?_ _ | refine Gr.drew ?_ | refine Gr.alloc ?_ _ | exact Gr.refl _)); done)⟩
  · have h' : ¬ z < 1 := by omega
    go_enter Tryz.func5, Tryz.ntmps5
    go_upto_region 2 with fail
    go_quiet (fail)
    go_wp2_with fail
    go_ret2
    exact ⟨rfl, by ((with_reducible repeat' (first | assumption | refine Gr.drewN ?_ _ | refine Gr.drew ?_ | refine Gr.alloc ?_ _ | exact Gr.refl _)); done)⟩
set_option maxHeartbeats 1000000 in
theorem zoneOf_any (a : Int) (w : World) : Calls Tryz.prog 8 #[.int .i64 a] w fun e w' => e = .returned (.int .i64 (zn a)) ∧ w' = w := by
  have H1 := hidb (fun w => signedAngle_any a w)
  by_cases h : sgn a = 180000000000
  · have HZ := hidb (zn_half a h)
    rw [h] at H1
    clear h
    go_enter Tryz.func8, Tryz.ntmps8
    go_wp2_with fail
    refine (H1.out _).mono ?_
    rintro e w1 ⟨rfl, rfl⟩
    go_wp2
    go_ret
    exact ⟨by rw [HZ.out]; rfl, rfl⟩
  · obtain ⟨hz, s1, s2⟩ := zn_sgn a h
    have HZ := hidb hz
    obtain ⟨l, hl⟩ : ∃ l, sgn a = l := ⟨_, rfl⟩
    rw [hl] at H1 HZ h s1 s2
    have h' : ¬ 2 * l = 360000000000 := by omega
    have e1 : IntKind.i64.wrap (2 * l) = 2 * l := wrq (by omega) (by omega)
    clear hz hl h
    go_enter Tryz.func8, Tryz.ntmps8
    go_wp2_with fail
    refine (H1.out _).mono ?_
    rintro e w1 ⟨rfl, rfl⟩
    go_wp2
    go_loop [4] (fun t => ∃ z : Int, t = .int .i64 z ∧ 1 ≤ z ∧ z ≤ zn a) (fun t => (zn a - intOf t).toNat)
    case atStart => exact ⟨1, rfl, Int.le_refl _, (zn_bd a).1⟩
    case round =>
      obtain ⟨z, rfl, z1, z2⟩ := hrel
      have hbd := zn_bd a
      have e2 : IntKind.i64.wrap (6 * z) = 6 * z := wrq (by omega) (by omega)
      have e3 : IntKind.i64.wrap (6 * z - 180) = 6 * z - 180 := wrq (by omega) (by omega)
      have e4 : IntKind.i64.wrap ((6 * z - 180) * 1000000000) = (6 * z - 180) * 1000000000 := wrq (by omega) (by omega)
      have e5 : IntKind.i64.wrap (z + 1) = z + 1 := wrq (by omega) (by omega)
      by_cases c : (6 * z - 180) * 1000000000 ≤ l
      · have HN : Hid (z + 1 ≤ zn a) := by show _ ≤ _; rw [HZ.out]; omega
        clear hbd z2
        go_wp2
        go_round
        case rel => exact ⟨z + 1, rfl, by omega, HN.out⟩
        case measure => have := HN.out; simp [intOf]; omega
      · have HN : Hid (zn a = z) := by show _ = _; have := HZ.out; omega
        clear hbd z2
        go_wp2
        go_ret
        exact ⟨by rw [HN.out]; rfl, rfl⟩
end Go.Proofs.YtfahmaapodoaaaaGreatDoor
