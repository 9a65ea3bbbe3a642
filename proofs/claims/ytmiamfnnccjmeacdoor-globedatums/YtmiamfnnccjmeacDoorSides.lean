/-
  grain.sides and mercatorref1.SinCos: both give the same two numbers of every angle.
-/
import Derived.Test.YtmiamfnnccjmeacDoorNorm
import Derived.Deep.QuietTactic
import Derived.BigQuiet
import Derived.WalkSmall
namespace Go.Proofs.YtmiamfnnccjmeacDoor
open Go.RowKit FB

def rad : Nat := 4445950764994258515
def qOf (n : Int) : Int := (n + 45000000000) / 90000000000
def xOf (n : Int) : Nat := FM (floatOfInt .f64 (n - qOf n * 90000000000)) rad
def zOf (n : Int) : Nat := FM (xOf n) (xOf n)
def sOf (n : Int) : Nat := FM (xOf n) (hor (csOf 1) (zOf n))
def cOf (n : Int) : Nat := hor (csOf 0) (zOf n)
def sinV (n : Int) : Nat := if qOf n % 4 = 1 then cOf n else if qOf n % 4 = 2 then Op.negFloat .f64 (sOf n) else if qOf n % 4 = 3 then Op.negFloat .f64 (cOf n) else sOf n
def cosV (n : Int) : Nat := if qOf n % 4 = 1 then Op.negFloat .f64 (sOf n) else if qOf n % 4 = 2 then Op.negFloat .f64 (cOf n) else if qOf n % 4 = 3 then sOf n else cOf n

theorem hid {p : Prop} (h : p) : Hid p := h
theorem q_bd (n : Int) (h0 : 0 ≤ n) (h1 : n < 360000000000) : 0 ≤ qOf n ∧ qOf n ≤ 4 ∧ -45000000000 ≤ n - qOf n * 90000000000 ∧ n - qOf n * 90000000000 < 45000000000 := by
  unfold qOf; omega
theorem ang_le (n : Int) (h0 : 0 ≤ n) (h1 : n < 360000000000) : Le 1059 (floatOfInt .f64 (n - qOf n * 90000000000)) := by
  have := q_bd n h0 h1
  exact ofInt_le _ 36 (by have : (2 : Nat) ^ 36 = 68719476736 := by decide
                          omega) (by decide)
theorem rad_le : Le 988 rad := ⟨by decide +kernel, by decide +kernel⟩
theorem x_le (n : Int) (h0 : 0 ≤ n) (h1 : n < 360000000000) : Le 1026 (xOf n) := FM_le (ang_le n h0 h1) rad_le (by decide) (by decide) (by decide) (by decide) _ (by decide) (by decide) (by decide)
theorem z_le (n : Int) (h0 : 0 ≤ n) (h1 : n < 360000000000) : Le 1031 (zOf n) := FM_le (x_le n h0 h1) (x_le n h0 h1) (by decide) (by decide) (by decide) (by decide) _ (by decide) (by decide) (by decide)
theorem ok_ang (n : Int) (o : Nat) (h0 : 0 ≤ n) (h1 : n < 360000000000) : Ok (csOf o) (zOf n) :=
  ok_of 1031 (zOf n) 1023 12 (z_le n h0 h1) (by decide) (by decide) (by decide) (by decide) (by decide) _ (cs_le o) (by rw [csOf_len]; decide)
theorem hor_ang (n : Int) (o : Nat) (h0 : 0 ≤ n) (h1 : n < 360000000000) : Le 1131 (hor (csOf o) (zOf n)) := by
  have := hor_le 1031 (zOf n) 1023 12 (z_le n h0 h1) (by decide) (by decide) (by decide) (by decide) (by decide) (csOf o) (cs_le o) (by rw [csOf_len]; decide)
  rw [csOf_len] at this; exact this
theorem s_le (n : Int) (h0 : 0 ≤ n) (h1 : n < 360000000000) : Le 1136 (sOf n) := FM_le (x_le n h0 h1) (hor_ang n 1 h0 h1) (by decide) (by decide) (by decide) (by decide) _ (by decide) (by decide) (by decide)
theorem x_eq (n : Int) (h0 : 0 ≤ n) (h1 : n < 360000000000) : Ieee.double.mul (floatOfInt .f64 (n - qOf n * 90000000000)) rad = some (xOf n) := mul_num ((ang_le n h0 h1).num (by decide) (by decide)) (rad_le.num (by decide) (by decide))
theorem z_eq (n : Int) (h0 : 0 ≤ n) (h1 : n < 360000000000) : Ieee.double.mul (xOf n) (xOf n) = some (zOf n) := mul_num ((x_le n h0 h1).num (by decide) (by decide)) ((x_le n h0 h1).num (by decide) (by decide))
theorem s_eq (n : Int) (h0 : 0 ≤ n) (h1 : n < 360000000000) : Ieee.double.mul (xOf n) (hor (csOf 1) (zOf n)) = some (sOf n) := mul_num ((x_le n h0 h1).num (by decide) (by decide)) ((hor_ang n 1 h0 h1).num (by decide) (by decide))

theorem series1 (n : Int) (h0 : 0 ≤ n) (h1 : n < 360000000000) (w : World) : Calls Tryd.prog 77 #[.float .f64 (zOf n), .int .i64 1] w fun e w' => e = .returned (.float .f64 (hor (csOf 1) (zOf n))) ∧ w' = w :=
  series_any (zOf n) 1 (by decide) ((z_le n h0 h1).num (by decide) (by decide)) (ok_ang n 1 h0 h1) w
theorem series0 (n : Int) (h0 : 0 ≤ n) (h1 : n < 360000000000) (w : World) : Calls Tryd.prog 77 #[.float .f64 (zOf n), .int .i64 0] w fun e w' => e = .returned (.float .f64 (cOf n)) ∧ w' = w :=
  series_any (zOf n) 0 (by decide) ((z_le n h0 h1).num (by decide) (by decide)) (ok_ang n 0 h0 h1) w

theorem sinV_eq (n : Int) (k : Nat) (hk : qOf n = k) : sinV n = (if k % 4 = 1 then cOf n else if k % 4 = 2 then Op.negFloat .f64 (sOf n) else if k % 4 = 3 then Op.negFloat .f64 (cOf n) else sOf n) ∧ cosV n = (if k % 4 = 1 then Op.negFloat .f64 (sOf n) else if k % 4 = 2 then Op.negFloat .f64 (cOf n) else if k % 4 = 3 then sOf n else cOf n) := by
  unfold sinV cosV
  rw [hk]
  have e1 : ((k : Int) % 4 = 1) = (k % 4 = 1) := by apply propext; omega
  have e2 : ((k : Int) % 4 = 2) = (k % 4 = 2) := by apply propext; omega
  have e3 : ((k : Int) % 4 = 3) = (k % 4 = 3) := by apply propext; omega
  simp only [e1, e2, e3, and_self]

set_option maxHeartbeats 1000000 in
theorem sinCos_any (a : Int) (w : World) : Calls Tryd.prog 50 #[.int .i64 a] w fun e w' => e = .returned (.tuple #[.float .f64 (sinV (nrm a)), .float .f64 (cosV (nrm a))]) ∧ w' = w := by
  have hb := nrm_lt a
  obtain ⟨hb0, hb1⟩ := hb
  have hx := fun w => hmul (x_eq (nrm a) hb0 hb1) w
  have hz := fun w => hmul (z_eq (nrm a) hb0 hb1) w
  have hs := fun w => hmul (s_eq (nrm a) hb0 hb1) w
  have hq := q_bd (nrm a) hb0 hb1
  have hN := hneg
  unfold rad at hx
  go_enter Tryd.func50, Tryd.ntmps50
  go_wp2_with (go_at_call 49; refine (normOf_any a _).mono ?_; rintro e w' ⟨rfl, rfl⟩)
  go_loop [0, 4] (fun t u => ∃ k : Nat, (k : Int) ≤ qOf (nrm a) ∧ t = .int .i64 (nrm a - k * 90000000000) ∧ u = .int .i64 k) (fun _ u => (4 - intOf u).toNat)
  case atStart => exact ⟨0, by omega, by simp, rfl⟩
  case round =>
    obtain ⟨k, hk, rfl, rfl⟩ := hrel
    by_cases hlt : (k : Int) < qOf (nrm a)
    · have h45 : 45000000000 ≤ nrm a - k * 90000000000 := by omega
      clear hx hz hs
      go_wp2
      go_round
      case rel => exact ⟨k + 1, by omega, by go_num, by go_num⟩
      case measure => simp [intOf]; omega
    · have hke : qOf (nrm a) = k := by omega
      have h45 : nrm a - k * 90000000000 < 45000000000 := by omega
      have H1 := hid (series1 (nrm a) hb0 hb1)
      have H0 := hid (series0 (nrm a) hb0 hb1)
      have HV := hid (sinV_eq (nrm a) k hke)
      rw [hke] at hx
      clear hke hq
      have hk4 : k % 4 = 0 ∨ k % 4 = 1 ∨ k % 4 = 2 ∨ k % 4 = 3 := by omega
      rcases hk4 with h | h | h | h
      · have e0 : ((k : Int) % 4 == 0) = true := by simp; omega
        have HK := hid h
        clear h
        go_wp2_with fail
        refine (H1.out _).mono ?_
        rintro e w' ⟨rfl, rfl⟩
        go_wp2_with fail
        refine (H0.out _).mono ?_
        rintro e w' ⟨rfl, rfl⟩
        go_wp2
        go_ret2
        exact ⟨by rw [HV.out.1, HV.out.2, HK.out]; rfl, rfl⟩
      · have e0 : ((k : Int) % 4 == 0) = false := by simp; omega
        have e1 : ((k : Int) % 4 == 1) = true := by simp; omega
        have HK := hid h
        clear h
        go_wp2_with fail
        refine (H1.out _).mono ?_
        rintro e w' ⟨rfl, rfl⟩
        go_wp2_with fail
        refine (H0.out _).mono ?_
        rintro e w' ⟨rfl, rfl⟩
        go_wp2
        go_ret2
        exact ⟨by rw [HV.out.1, HV.out.2, HK.out]; rfl, rfl⟩
      · have e0 : ((k : Int) % 4 == 0) = false := by simp; omega
        have e1 : ((k : Int) % 4 == 1) = false := by simp; omega
        have e2 : ((k : Int) % 4 == 2) = true := by simp; omega
        have HK := hid h
        clear h
        go_wp2_with fail
        refine (H1.out _).mono ?_
        rintro e w' ⟨rfl, rfl⟩
        go_wp2_with fail
        refine (H0.out _).mono ?_
        rintro e w' ⟨rfl, rfl⟩
        go_wp2
        go_ret2
        exact ⟨by rw [HV.out.1, HV.out.2, HK.out]; rfl, rfl⟩
      · have e0 : ((k : Int) % 4 == 0) = false := by simp; omega
        have e1 : ((k : Int) % 4 == 1) = false := by simp; omega
        have e2 : ((k : Int) % 4 == 2) = false := by simp; omega
        have HK := hid h
        clear h
        go_wp2_with fail
        refine (H1.out _).mono ?_
        rintro e w' ⟨rfl, rfl⟩
        go_wp2_with fail
        refine (H0.out _).mono ?_
        rintro e w' ⟨rfl, rfl⟩
        go_wp2
        go_ret2
        exact ⟨by rw [HV.out.1, HV.out.2, HK.out]; rfl, rfl⟩
end Go.Proofs.YtmiamfnnccjmeacDoor
