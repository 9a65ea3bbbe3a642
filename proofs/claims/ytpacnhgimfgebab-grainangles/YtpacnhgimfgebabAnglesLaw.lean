/-
  The law GrainAngles: its walk.
-/
import Derived.Test.YtpacnhgimfgebabAngleOf
import Derived.Test.YtpacnhgimfgebabLen
namespace Go.Proofs.Ytpacnhgimfgebab
open Go.RowKit FB
attribute [local go_sem] run_store_float

theorem same_got {o : Option Nat} {r s : Nat} (hr : Got o r) (hs : Got o s) (w : World) : Calls Try.prog 8 #[.float .f64 r, .float .f64 s] w fun e w' => e = .returned (.bool true) ∧ w' = w := by
  cases o with
  | none => exact same_nan r s hr hs w
  | some q =>
    obtain rfl : r = q := hr
    obtain rfl : s = r := hs
    cases h : Ieee.double.read s with
    | number t m e => exact same_num s s ⟨t, m, e, h⟩ (order_self ⟨t, m, e, h⟩) w
    | infinity t => exact same_inf s t h w
    | nan t f => exact same_nan s s ⟨t, f, h⟩ ⟨t, f, h⟩ w

theorem angle_any (y x : Nat) (hy : y < 18446744073709551616) (hx : x < 18446744073709551616) (w : World) : Calls Try.prog 15 #[.float .f64 y, .float .f64 x] w fun e w' => e = .returned (.tuple #[.int .i64 (angV y x).1, .bool (angV y x).2]) ∧ Below w.heap.size w w' := by
  cases h1 : finV y with
  | false =>
    have : angV y x = (0, false) := by unfold angV; rw [h1]; rfl
    rw [this]; exact angle_no1 y x hy h1 w
  | true =>
    cases h2 : finV x with
    | false =>
      have : angV y x = (0, false) := by unfold angV; rw [h1, h2]; rfl
      rw [this]; exact angle_no2 y x hy hx h1 h2 w
    | true =>
      cases h3 : (isZ y && isZ x) with
      | true =>
        have : angV y x = (0, false) := by unfold angV; rw [h1, h2, h3]; rfl
        rw [this]
        rw [Bool.and_eq_true] at h3
        exact angle_no3 y x hy hx h1 h2 h3.1 h3.2 w
      | false =>
        have : (angV y x).2 = true := by
          unfold angV; rw [h1, h2, h3]
          simp only [Bool.not_true, Bool.or_self, Bool.false_eq_true, if_false]
          split <;> first | rfl | (split <;> first | rfl | (split <;> rfl))
        rw [this]; exact angle_yes y x hy hx h1 h2 h3 w
theorem angleOf_any (y x : Nat) (hy : y < 18446744073709551616) (hx : x < 18446744073709551616) (w : World) : Calls Try.prog 16 #[.float .f64 y, .float .f64 x] w fun e w' => e = .returned (.tuple #[.int .i64 (angV y x).1, .bool (angV y x).2]) ∧ Below w.heap.size w w' := by
  cases h : (!finV y || !finV x || (isZ y && isZ x)) with
  | true =>
    have : angV y x = (0, false) := by unfold angV; rw [h]; rfl
    rw [this]
    exact angleOf_no y x (by rw [← h]; cases finV x <;> cases finV y <;> cases isZ x <;> cases isZ y <;> rfl) w
  | false =>
    have h' := h
    simp only [Bool.or_eq_false_iff, Bool.not_eq_false'] at h'
    have : (angV y x).2 = true := by
      unfold angV; rw [h]
      simp only [Bool.false_eq_true, if_false]
      split <;> first | rfl | (split <;> first | rfl | (split <;> rfl))
    rw [this]; exact angleOf_yes y x hy hx h'.1.1 h'.1.2 h'.2 w

theorem keep3 {b : Nat} {vx vy vz : Value} {W w' : World} (hb : Below W.heap.size W w') (h : W.cell? ⟨b, 0, none⟩ = some vx ∧ W.cell? ⟨b, 1, none⟩ = some vy ∧ W.cell? ⟨b, 2, none⟩ = some vz ∧ b < W.heap.size) :
    w'.cell? ⟨b, 0, none⟩ = some vx ∧ w'.cell? ⟨b, 1, none⟩ = some vy ∧ w'.cell? ⟨b, 2, none⟩ = some vz ∧ b < w'.heap.size := by
  obtain ⟨h1, h2, h3, h4⟩ := h
  exact ⟨(hb.cell (p := ⟨b, 0, none⟩) h4).trans h1, (hb.cell (p := ⟨b, 1, none⟩) h4).trans h2, (hb.cell (p := ⟨b, 2, none⟩) h4).trans h3, Nat.lt_of_lt_of_le h4 hb.size⟩

theorem bt {a b c : World} (h : Below a.heap.size a b) (k : Below b.heap.size b c) : Below a.heap.size a c := h.trans (k.mono h.size)

set_option maxHeartbeats 4000000 in
theorem angles_walk (a : Int) (x y z : Nat) (hx : x < 18446744073709551616) (hy : y < 18446744073709551616) (w : World) :
    Calls Try.prog 5 #[.int .i64 a, .float .f64 x, .float .f64 y, .float .f64 z] w fun e w' => e = .returned (.bool true) ∧ Below w.heap.size w w' := by
  have hn1 : nrm (-1) = 359999999999 := by decide
  obtain ⟨ha0, ha1⟩ := nrm_lt a
  obtain ⟨ns, nc⟩ := sin_num (nrm a) ha0 ha1
  obtain ⟨us, usn⟩ := uz_same ns
  obtain ⟨uc, ucn⟩ := uz_same nc
  have HS := hid (fun w => same_num _ _ usn us w)
  have HC := hid (fun w => same_num _ _ ucn uc w)
  have HX := hid hx
  have HY := hid hy
  clear us usn uc ucn ns nc ha0 ha1 hx hy
  go_enter Try.func5, Try.ntmps5
  go_wp2_with fail
  refine (norm_any _ _).mono ?_
  rintro e w1 ⟨rfl, rfl⟩
  go_wp2_with fail
  refine (sinCos_any _ _).mono ?_
  rintro e w2 ⟨rfl, rfl⟩
  go_wp2_with fail
  refine (sin_any _ _).mono ?_
  rintro e w3 ⟨rfl, hb3⟩
  go_wp2_with fail
  refine (HS.out _).mono ?_
  rintro e w4 ⟨rfl, rfl⟩
  go_wp2_with fail
  refine (cos_any _ _).mono ?_
  rintro e w5 ⟨rfl, hb5⟩
  go_wp2_with fail
  refine (HC.out _).mono ?_
  rintro e w6 ⟨rfl, rfl⟩
  go_wp2_with fail
  refine (angle_any y x HY.out HX.out _).mono ?_
  rintro e w7 ⟨rfl, hb7⟩
  go_wp2_with fail
  refine (angleOf_any y x HY.out HX.out _).mono ?_
  rintro e w8 ⟨rfl, hb8⟩
  go_wp2
  go_region_held (fun w' => w'.cell? ⟨w8.heap.size, 0, none⟩ = some (.float .f64 x) ∧ w'.cell? ⟨w8.heap.size, 1, none⟩ = some (.float .f64 y) ∧ w'.cell? ⟨w8.heap.size, 2, none⟩ = some (.float .f64 z) ∧ w8.heap.size < w'.heap.size)
    (first | (exact keep3 (by assumption) (by assumption)) | assumption | (simp [go_sem]; done))
    (first
      | (go_at_call 17; refine (length_any x y z _).mono ?_; rintro e wa ⟨ra, rfl, hga, hba⟩)
      | (go_at_call 18; refine (lengthOf_any x y z _).mono ?_; rintro e wb ⟨rb, rfl, hgb, hbb⟩)
      | (go_at_call 8; refine (same_got (by assumption) (by assumption) _).mono ?_; rintro e wc ⟨rfl, rfl⟩))
  go_wp2_with fail
  refine (norm_any _ _).mono ?_
  rintro e wd ⟨rfl, rfl⟩
  go_wp2_with fail
  refine (normOf_any _ _).mono ?_
  rintro e we ⟨rfl, rfl⟩
  have hz1 : (nrm a == nrm a) = true := by simp
  go_wp2_with fail
  refine (signed_any _ _).mono ?_
  rintro e wf ⟨rfl, rfl⟩
  go_wp2_with fail
  refine (signedAngle_any _ _).mono ?_
  rintro e wg ⟨rfl, rfl⟩
  go_wp2
  go_ret
  exact ⟨rfl, bt (bt (bt (bt (bt (bt hb3 hb5) hb7) hb8) ((Below.refl _ _).alloc (Nat.le_refl _) _).drew) hba) hbb⟩
end Go.Proofs.Ytpacnhgimfgebab
