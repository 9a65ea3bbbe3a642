/-
  The law GrainAngles: its walk.
-/
import Derived.Test.YtmiamfnnccjmeabAngAny
namespace Go.Proofs.Ytmiamfnnccjmeab
open Go.RowKit FB
attribute [local go_sem] run_store_float

theorem keep3 {b : Nat} {vx vy vz : Value} {W w' : World} (hb : Below W.heap.size W w') (h : W.cell? ⟨b, 0, none⟩ = some vx ∧ W.cell? ⟨b, 1, none⟩ = some vy ∧ W.cell? ⟨b, 2, none⟩ = some vz ∧ b < W.heap.size) :
    w'.cell? ⟨b, 0, none⟩ = some vx ∧ w'.cell? ⟨b, 1, none⟩ = some vy ∧ w'.cell? ⟨b, 2, none⟩ = some vz ∧ b < w'.heap.size := by
  obtain ⟨h1, h2, h3, h4⟩ := h
  exact ⟨(hb.cell (p := ⟨b, 0, none⟩) h4).trans h1, (hb.cell (p := ⟨b, 1, none⟩) h4).trans h2, (hb.cell (p := ⟨b, 2, none⟩) h4).trans h3, Nat.lt_of_lt_of_le h4 hb.size⟩

theorem bt {a b c : World} (h : Below a.heap.size a b) (k : Below b.heap.size b c) : Below a.heap.size a c := h.trans (k.mono h.size)

set_option maxHeartbeats 4000000 in
theorem angles_walk (a : Int) (x y z : Nat) (hx : x < 18446744073709551616) (hy : y < 18446744073709551616) (w : World) :
    Calls Try.prog 5 #[.int .i64 a, .float .f64 x, .float .f64 y, .float .f64 z] w fun e w' => e = .returned (.bool true) ∧ Below w.heap.size w w' := by
  have hn1 : nrm (-1) = 359999999999 := by decide
  obtain ⟨ha0, ha1⟩ := nrm_lt a
  obtain ⟨ns, nc⟩ := sin_num (nrm a) ha0 ha1
  obtain ⟨us, usn⟩ := uz_same ns
  obtain ⟨uc, ucn⟩ := uz_same nc
  have HS := hid (fun w => same_num _ _ usn us w)
  have HC := hid (fun w => same_num _ _ ucn uc w)
  have HX := hid hx
  have HY := hid hy
  clear us usn uc ucn ns nc ha0 ha1 hx hy
  go_enter Try.func5, Try.ntmps5
  go_wp2_with fail
  refine (norm_any _ _).mono ?_
  rintro e w1 ⟨rfl, rfl⟩
  go_wp2_with fail
  refine (sinCos_any _ _).mono ?_
  rintro e w2 ⟨rfl, rfl⟩
  go_wp2_with fail
  refine (sin_any _ _).mono ?_
  rintro e w3 ⟨rfl, hb3⟩
  go_wp2_with fail
  refine (HS.out _).mono ?_
  rintro e w4 ⟨rfl, rfl⟩
  go_wp2_with fail
  refine (cos_any _ _).mono ?_
  rintro e w5 ⟨rfl, hb5⟩
  go_wp2_with fail
  refine (HC.out _).mono ?_
  rintro e w6 ⟨rfl, rfl⟩
  go_wp2_with fail
  refine (angle_any y x HY.out HX.out _).mono ?_
  rintro e w7 ⟨rfl, hb7⟩
  go_wp2_with fail
  refine (angleOf_any y x HY.out HX.out _).mono ?_
  rintro e w8 ⟨rfl, hb8⟩
  go_wp2
  go_region_held (fun w' => w'.cell? ⟨w8.heap.size, 0, none⟩ = some (.float .f64 x) ∧ w'.cell? ⟨w8.heap.size, 1, none⟩ = some (.float .f64 y) ∧ w'.cell? ⟨w8.heap.size, 2, none⟩ = some (.float .f64 z) ∧ w8.heap.size < w'.heap.size)
    (first | (exact keep3 (by assumption) (by assumption)) | assumption | (simp [go_sem]; done))
    (first
      | (go_at_call 17; refine (length_any x y z _).mono ?_; rintro e wa ⟨ra, rfl, hga, hba⟩)
      | (go_at_call 18; refine (lengthOf_any x y z _).mono ?_; rintro e wb ⟨rb, rfl, hgb, hbb⟩)
      | (go_at_call 8; refine (same_got (by assumption) (by assumption) _).mono ?_; rintro e wc ⟨rfl, rfl⟩))
  go_wp2_with fail
  refine (norm_any _ _).mono ?_
  rintro e wd ⟨rfl, rfl⟩
  go_wp2_with fail
  refine (normOf_any _ _).mono ?_
  rintro e we ⟨rfl, rfl⟩
  have hz1 : (nrm a == nrm a) = true := by simp
  go_wp2_with fail
  refine (signed_any _ _).mono ?_
  rintro e wf ⟨rfl, rfl⟩
  go_wp2_with fail
  refine (signedAngle_any _ _).mono ?_
  rintro e wg ⟨rfl, rfl⟩
  go_wp2
  go_ret
  exact ⟨rfl, bt (bt (bt (bt (bt (bt hb3 hb5) hb7) hb8) ((Below.refl _ _).alloc (Nat.le_refl _) _).drew) hba) hbb⟩
end Go.Proofs.Ytmiamfnnccjmeab
