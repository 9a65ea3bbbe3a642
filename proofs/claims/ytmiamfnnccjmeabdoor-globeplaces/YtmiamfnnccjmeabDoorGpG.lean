/-
  mercatorref2.VecOf.
-/
import Derived.Test.YtmiamfnnccjmeabDoorGpF
namespace Go.Proofs.YtmiamfnnccjmeabDoor
open Go.RowKit FB
attribute [local go_sem] run_store_float

set_option maxRecDepth 4000 in
set_option maxHeartbeats 4000000 in
theorem vecOf_shape (a f h : Nat) (lon lat : Int) (hg : okG a f = false) (w : World) : Calls Tryd.prog 17 #[.agg #[.float .f64 a, .float .f64 f], .agg #[.int .i64 lon, .int .i64 lat], .float .f64 h] w fun e w' => e = .returned (.tuple #[.agg #[.float .f64 0, .float .f64 0, .float .f64 0], .int .i64 3]) ∧ Below w.heap.size w w' := by
  go_enter Tryd.func17, Tryd.ntmps17
  go_wp2_with fail
  refine (globeError_any a f _).mono ?_
  rintro e w1 ⟨rfl, hB⟩
  have VV := (VF.init w a f 24 41 43 lon lat).below hB
  have HC := bt ((((Below.refl _ _).alloc (Nat.le_refl _) _).alloc (by simp) _).alloc (by simp; omega) _) hB
  clear hB
  rw [hg]
  obtain ⟨g0, g1, p0, p1, r0, r1, r2, z0, z1, z2, lt⟩ := VV
  go_wp2
  exact bodyPost_ret (v := .tuple #[.agg #[.float .f64 (0), .float .f64 (0), .float .f64 (0)], .int .i64 3]) (by simp [results, Tryd.results17, go_sem, r0, r1, r2]) rfl ⟨rfl, ((HC.setCell (by simp; omega) _).setCell (by simp; omega) _).setCell (by simp; omega) _⟩
set_option maxRecDepth 4000 in
set_option maxHeartbeats 4000000 in
theorem vecOf_range1 (a f h : Nat) (lon lat : Int) (hg : okG a f = true) (h2 : 90000000000 < lat) (w : World) : Calls Tryd.prog 17 #[.agg #[.float .f64 a, .float .f64 f], .agg #[.int .i64 lon, .int .i64 lat], .float .f64 h] w fun e w' => e = .returned (.tuple #[.agg #[.float .f64 0, .float .f64 0, .float .f64 0], .int .i64 4]) ∧ Below w.heap.size w w' := by
  go_enter Tryd.func17, Tryd.ntmps17
  go_wp2_with fail
  refine (globeError_any a f _).mono ?_
  rintro e w1 ⟨rfl, hB⟩
  have VV := (VF.init w a f 24 41 43 lon lat).below hB
  have HC := bt ((((Below.refl _ _).alloc (Nat.le_refl _) _).alloc (by simp) _).alloc (by simp; omega) _) hB
  clear hB
  rw [hg]
  obtain ⟨g0, g1, p0, p1, r0, r1, r2, z0, z1, z2, lt⟩ := VV
  go_wp2_with fail
  refine (between_any _ _ _ _).mono ?_
  rintro e w2 ⟨rfl, rfl⟩
  go_wp2
  exact bodyPost_ret (v := .tuple #[.agg #[.float .f64 (0), .float .f64 (0), .float .f64 (0)], .int .i64 4]) (by simp [results, Tryd.results17, go_sem, r0, r1, r2]) rfl ⟨rfl, ((HC.setCell (by simp; omega) _).setCell (by simp; omega) _).setCell (by simp; omega) _⟩
set_option maxRecDepth 4000 in
set_option maxHeartbeats 4000000 in
theorem vecOf_range2 (a f h : Nat) (lon lat : Int) (hg : okG a f = true) (h2 : ¬ 90000000000 < lat) (h1 : lat < -90000000000) (w : World) : Calls Tryd.prog 17 #[.agg #[.float .f64 a, .float .f64 f], .agg #[.int .i64 lon, .int .i64 lat], .float .f64 h] w fun e w' => e = .returned (.tuple #[.agg #[.float .f64 0, .float .f64 0, .float .f64 0], .int .i64 4]) ∧ Below w.heap.size w w' := by
  go_enter Tryd.func17, Tryd.ntmps17
  go_wp2_with fail
  refine (globeError_any a f _).mono ?_
  rintro e w1 ⟨rfl, hB⟩
  have VV := (VF.init w a f 24 41 43 lon lat).below hB
  have HC := bt ((((Below.refl _ _).alloc (Nat.le_refl _) _).alloc (by simp) _).alloc (by simp; omega) _) hB
  clear hB
  rw [hg]
  obtain ⟨g0, g1, p0, p1, r0, r1, r2, z0, z1, z2, lt⟩ := VV
  go_wp2_with fail
  refine (between_any _ _ _ _).mono ?_
  rintro e w2 ⟨rfl, rfl⟩
  go_wp2
  exact bodyPost_ret (v := .tuple #[.agg #[.float .f64 (0), .float .f64 (0), .float .f64 (0)], .int .i64 4]) (by simp [results, Tryd.results17, go_sem, r0, r1, r2]) rfl ⟨rfl, ((HC.setCell (by simp; omega) _).setCell (by simp; omega) _).setCell (by simp; omega) _⟩
set_option maxRecDepth 4000 in
set_option maxHeartbeats 4000000 in
theorem vecOf_range3 (a f h : Nat) (lon lat : Int) (hg : okG a f = true) (h2 : ¬ 90000000000 < lat) (h1 : ¬ lat < -90000000000) (h3 : inB 13935002356576944128 4741671816366391296 h = false) (w : World) : Calls Tryd.prog 17 #[.agg #[.float .f64 a, .float .f64 f], .agg #[.int .i64 lon, .int .i64 lat], .float .f64 h] w fun e w' => e = .returned (.tuple #[.agg #[.float .f64 0, .float .f64 0, .float .f64 0], .int .i64 4]) ∧ Below w.heap.size w w' := by
  go_enter Tryd.func17, Tryd.ntmps17
  go_wp2_with fail
  refine (globeError_any a f _).mono ?_
  rintro e w1 ⟨rfl, hB⟩
  have VV := (VF.init w a f 24 41 43 lon lat).below hB
  have HC := bt ((((Below.refl _ _).alloc (Nat.le_refl _) _).alloc (by simp) _).alloc (by simp; omega) _) hB
  clear hB
  rw [hg]
  obtain ⟨g0, g1, p0, p1, r0, r1, r2, z0, z1, z2, lt⟩ := VV
  go_wp2_with fail
  refine (between_any _ _ _ _).mono ?_
  rintro e w2 ⟨rfl, rfl⟩
  go_wp2
  exact bodyPost_ret (v := .tuple #[.agg #[.float .f64 (0), .float .f64 (0), .float .f64 (0)], .int .i64 4]) (by simp [results, Tryd.results17, go_sem, r0, r1, r2]) rfl ⟨rfl, ((HC.setCell (by simp; omega) _).setCell (by simp; omega) _).setCell (by simp; omega) _⟩
set_option maxRecDepth 4000 in
set_option maxHeartbeats 4000000 in
theorem vecOf_ok (a f h : Nat) (lon lat : Int) (hg : okG a f = true) (g : GOK a f) (hh : Le 1053 h) (h2 : ¬ 90000000000 < lat) (h1 : ¬ lat < -90000000000) (h3 : inB 13935002356576944128 4741671816366391296 h = true) (w : World) : Calls Tryd.prog 17 #[.agg #[.float .f64 a, .float .f64 f], .agg #[.int .i64 lon, .int .i64 lat], .float .f64 h] w fun e w' => e = .returned (.tuple #[.agg #[.float .f64 (FM (dW a f h lat (cosV (nrm lat))) (cosV (nrm lon))), .float .f64 (FM (dW a f h lat (cosV (nrm lat))) (sinV (nrm lon))), .float .f64 (FM (uW a f h lat) (sinV (nrm lat)))], .int .i64 0]) ∧ Below w.heap.size w w' := by
  obtain ⟨l0, l1⟩ := nrm_lt lat
  obtain ⟨m0, m1⟩ := nrm_lt lon
  obtain ⟨q1, q2, q3, q4, q5, q6, _, _, _⟩ := vec_eqs lat g hh (cosV (nrm lat)) (cosV (nrm lon)) (sinV (nrm lat)) ((sinV_le _ l0 l1).2) ((sinV_le _ m0 m1).2) ((sinV_le _ l0 l1).1)
  have q7 := (vec_eqs lat g hh (cosV (nrm lat)) (sinV (nrm lon)) (sinV (nrm lat)) ((sinV_le _ l0 l1).2) ((sinV_le _ m0 m1).1) ((sinV_le _ l0 l1).1)).2.2.1
  have e1 := fun w => hsub (e1_eq g.lf) w
  have e2 := fun w => hadd q1 w
  have e3 := fun w => hmul q2 w
  have e4 := fun w => hmul q3 w
  have e5 := fun w => hmul q4 w
  have e6 := fun w => hadd q5 w
  have e7 := fun w => hmul q6 w
  have e8 := fun w => hmul q7 w
  have GG := hid g
  clear q1 q2 q3 q4 q5 q6 q7 g hh l0 l1 m0 m1
  go_enter Tryd.func17, Tryd.ntmps17
  go_wp2_with fail
  refine (globeError_any a f _).mono ?_
  rintro e w1 ⟨rfl, hB⟩
  have VV := (VF.init w a f 24 41 43 lon lat).below hB
  have HC := bt ((((Below.refl _ _).alloc (Nat.le_refl _) _).alloc (by simp) _).alloc (by simp; omega) _) hB
  clear hB
  rw [hg]
  obtain ⟨g0, g1, p0, p1, r0, r1, r2, z0, z1, z2, lt⟩ := VV
  go_wp2_with fail
  refine (between_any _ _ _ _).mono ?_
  rintro e w2 ⟨rfl, rfl⟩
  go_wp2_with fail
  refine (crossOf_w a f lat GG.out _).mono ?_
  rintro e w3 ⟨rfl, hB⟩
  have VV := VF.below ⟨g0, g1, p0, p1, r0, r1, r2, z0, z1, z2, lt⟩ hB
  replace HC := bt HC hB
  clear g0 g1 p0 p1 r0 r1 r2 z0 z1 z2 lt hB
  obtain ⟨g0, g1, p0, p1, r0, r1, r2, z0, z1, z2, lt⟩ := VV
  go_wp2_with fail
  refine (sinCos_any _ _).mono ?_
  rintro e w4 ⟨rfl, rfl⟩
  go_wp2_with fail
  refine (sinCos_any _ _).mono ?_
  rintro e w4 ⟨rfl, rfl⟩
  go_wp2_with fail
  refine (squareOf_any _ _ GG.out.lf _).mono ?_
  rintro e w5 ⟨rfl, hB⟩
  have VV := VF.below ⟨g0, g1, p0, p1, r0, r1, r2, z0, z1, z2, lt⟩ hB
  replace HC := bt HC hB
  clear g0 g1 p0 p1 r0 r1 r2 z0 z1 z2 lt hB
  obtain ⟨g0, g1, p0, p1, r0, r1, r2, z0, z1, z2, lt⟩ := VV
  go_wp2
  exact bodyPost_ret (v := .tuple #[.agg #[.float .f64 (FM (dW a f h lat (cosV (nrm lat))) (cosV (nrm lon))), .float .f64 (FM (dW a f h lat (cosV (nrm lat))) (sinV (nrm lon))), .float .f64 (FM (uW a f h lat) (sinV (nrm lat)))], .int .i64 0]) (by simp [results, Tryd.results17, go_sem, r0, r1, r2]) rfl ⟨rfl, ((HC.setCell (by simp; omega) _).setCell (by simp; omega) _).setCell (by simp; omega) _⟩
end Go.Proofs.YtmiamfnnccjmeabDoor
