/-
  Globe.Vec, where there is one.
-/
import Derived.Test.YtmiamfnnccjmeabDoorGpF
namespace Go.Proofs.YtmiamfnnccjmeabDoor
open Go.RowKit FB
attribute [local go_sem] run_store_float

set_option maxRecDepth 4000 in
set_option maxHeartbeats 4000000 in
theorem vec_ok (a f h : Nat) (lon lat : Int) (hg : okG a f = true) (g : GOK a f) (hh : Le 1053 h) (h1 : ¬ lat < -90000000000) (h2 : ¬ 90000000000 < lat) (h3 : inB 13935002356576944128 4741671816366391296 h = true) (w : World) : Calls Tryd.prog 16 #[.agg #[.float .f64 a, .float .f64 f], .agg #[.int .i64 lon, .int .i64 lat], .float .f64 h] w fun e w' => e = .returned (.tuple #[.agg #[.float .f64 (uz (FM (dW a f h lat (uz (cosV (nrm lat)))) (uz (cosV (nrm lon))))), .float .f64 (uz (FM (dW a f h lat (uz (cosV (nrm lat)))) (uz (sinV (nrm lon))))), .float .f64 (uz (FM (uW a f h lat) (uz (sinV (nrm lat)))))], .nilIface]) ∧ Below w.heap.size w w' := by
  obtain ⟨l0, l1⟩ := nrm_lt lat
  obtain ⟨m0, m1⟩ := nrm_lt lon
  obtain ⟨q1, q2, q3, q4, q5, q6, _, _, _⟩ := vec_eqs lat g hh (uz (cosV (nrm lat))) (uz (cosV (nrm lon))) (uz (sinV (nrm lat))) (uz_le (sinV_le _ l0 l1).2) (uz_le (sinV_le _ m0 m1).2) (uz_le (sinV_le _ l0 l1).1)
  have q7 := (vec_eqs lat g hh (uz (cosV (nrm lat))) (uz (sinV (nrm lon))) (uz (sinV (nrm lat))) (uz_le (sinV_le _ l0 l1).2) (uz_le (sinV_le _ m0 m1).1) (uz_le (sinV_le _ l0 l1).1)).2.2.1
  have e1 := fun w => hsub (e1_eq g.lf) w
  have e2 := fun w => hadd q1 w
  have e3 := fun w => hmul q2 w
  have e4 := fun w => hmul q3 w
  have e5 := fun w => hmul q4 w
  have e6 := fun w => hadd q5 w
  have e7 := fun w => hmul q6 w
  have e8 := fun w => hmul q7 w
  have GG := hid g
  clear q1 q2 q3 q4 q5 q6 q7 g hh l0 l1 m0 m1
  go_enter Tryd.func16, Tryd.ntmps16
  go_wp2_with fail
  refine (valid_ok a f hg _).mono ?_
  rintro e w1 ⟨rfl, hB⟩
  have VV := (VF.init w a f 25 41 43 lon lat).below hB
  have HC := bt ((((Below.refl _ _).alloc (Nat.le_refl _) _).alloc (by simp) _).alloc (by simp; omega) _) hB
  clear hB
  obtain ⟨g0, g1, p0, p1, r0, r1, r2, z0, z1, z2, lt⟩ := VV
  go_wp2_with fail
  refine (within1 _ _ _ h _ (by simp [go_sem])).mono ?_
  rintro e w2 ⟨rfl, hw2⟩
  have VV : VF w2 w.heap.size a f lon lat := by rw [hw2]; exact VF.alloc ⟨g0, g1, p0, p1, r0, r1, r2, z0, z1, z2, lt⟩ _
  replace HC : Below w.heap.size w w2 := by rw [hw2]; exact HC.alloc HC.size _
  clear g0 g1 p0 p1 r0 r1 r2 z0 z1 z2 lt hw2
  obtain ⟨g0, g1, p0, p1, r0, r1, r2, z0, z1, z2, lt⟩ := VV
  go_wp2_with fail
  refine (cross_w a f lat GG.out _).mono ?_
  rintro e w3 ⟨rfl, hB⟩
  have VV := VF.below ⟨g0, g1, p0, p1, r0, r1, r2, z0, z1, z2, lt⟩ hB
  replace HC := bt HC hB
  clear g0 g1 p0 p1 r0 r1 r2 z0 z1 z2 lt hB
  obtain ⟨g0, g1, p0, p1, r0, r1, r2, z0, z1, z2, lt⟩ := VV
  go_wp2_with fail
  refine (cos_any _ _).mono ?_
  rintro e w4 ⟨rfl, hB⟩
  have VV := VF.below ⟨g0, g1, p0, p1, r0, r1, r2, z0, z1, z2, lt⟩ hB
  replace HC := bt HC hB
  clear g0 g1 p0 p1 r0 r1 r2 z0 z1 z2 lt hB
  obtain ⟨g0, g1, p0, p1, r0, r1, r2, z0, z1, z2, lt⟩ := VV
  go_wp2
  have VV : VF w4 w.heap.size a f lon lat := ⟨g0, g1, p0, p1, r0, r1, r2, z0, z1, z2, lt⟩
  clear r0 r1 r2 z0 z1 z2 lt h3 hg
  go_region_held (fun w' => w'.cell? ⟨w.heap.size, 0, none⟩ = some (.float .f64 a) ∧ w'.cell? ⟨w.heap.size, 1, none⟩ = some (.float .f64 f) ∧ w'.cell? ⟨w.heap.size + 1, 0, none⟩ = some (.int .i64 lon) ∧ w'.cell? ⟨w.heap.size + 1, 1, none⟩ = some (.int .i64 lat))
    (first | exact ⟨VV.g0, VV.g1, VV.p0, VV.p1⟩ | exact VV.keep _ _ _)
    ((first
      | (go_at_call 33; refine (cos_any _ _).mono ?_; rintro e w5 ⟨rfl, hB5⟩; replace VV := VV.below2 hB5 rfl; replace HC : Below w.heap.size w w5 := (by first | exact bt HC hB5 | exact bt HC.drew hB5))
      | (go_at_call 27; refine (sin_any _ _).mono ?_; rintro e w5 ⟨rfl, hB5⟩; replace VV := VV.below2 hB5 rfl; replace HC : Below w.heap.size w w5 := (by first | exact bt HC hB5 | exact bt HC.drew hB5))
      | (go_at_call 29; refine (bulge_any _ _ GG.out.lf _).mono ?_; rintro e w5 ⟨rfl, hB5⟩; replace VV := VV.below2 hB5 rfl; replace HC : Below w.heap.size w w5 := (by first | exact bt HC hB5 | exact bt HC.drew hB5))
      | (go_at_call 34; refine (unsigned_any _ _ _ _).mono ?_; rintro e w5 ⟨rfl, hB5⟩; replace VV := VV.below2 hB5 rfl; replace HC : Below w.heap.size w w5 := (by first | exact bt HC hB5 | exact bt HC.drew hB5); obtain ⟨_, _, _, _, r0, r1, r2, z0, z1, z2, lt⟩ := id VV)))
  go_wp2
  exact bodyPost_ret (v := .tuple #[.agg #[.float .f64 (uz (FM (dW a f h lat (uz (cosV (nrm lat)))) (uz (cosV (nrm lon))))), .float .f64 (uz (FM (dW a f h lat (uz (cosV (nrm lat)))) (uz (sinV (nrm lon))))), .float .f64 (uz (FM (uW a f h lat) (uz (sinV (nrm lat)))))], .nilIface]) (by simp [results, Tryd.results16, go_sem, r0, r1, r2]) rfl ⟨rfl, ((HC.setCell (by simp; omega) _).setCell (by simp; omega) _).setCell (by simp; omega) _⟩
end Go.Proofs.YtmiamfnnccjmeabDoor
