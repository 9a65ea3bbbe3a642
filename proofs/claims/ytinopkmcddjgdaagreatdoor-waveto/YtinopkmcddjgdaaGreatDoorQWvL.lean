/-
  wave.Strip: Turned.
-/
import Derived.Test.YtinopkmcddjgdaaGreatDoorQWvJ
import Derived.BigQuiet
namespace Go.Proofs.YtinopkmcddjgdaaGreatDoor
open Go.RowKit FB
attribute [local go_sem] run_store_float

/-- The row of the waves' own slopes; the slope of a place's point. -/
def slO (s : Four) : Four := ⟨oM (some (floatOfInt .f64 2)) s.a, oM (some (floatOfInt .f64 4)) s.b, oM (some (floatOfInt .f64 6)) s.c, oM (some (floatOfInt .f64 8)) s.d⟩
noncomputable def trR (f n : Nat) (lat d : Int) : Option Nat := ripO csR (some oneW) (uI f lat d) (vRf f lat d) (slO (aS (uz n)))
noncomputable def trI (f n : Nat) (lat d : Int) : Option Nat := ripO csI (some 0) (uI f lat d) (vRf f lat d) (slO (aS (uz n)))
noncomputable def scP (a f n m : Nat) (lat d : Int) : Option Nat := oD (oM (srO a (uz n) m) (hyO (trR f n lat d) (trI f n lat d))) (oM (oM (crO a f (sinV (nrm lat))) (some (uz (cosV (nrm lat))))) (rRf f lat d))
noncomputable def turI (f n : Nat) (lat d : Int) : Int := sgn (angC (oM (tRf f lat) (some (uz (sinV (nrm d))))) (oM (hyO (some oneW) (tRf f lat)) (some (uz (cosV (nrm d))))) - angC (trI f n lat d) (trR f n lat d))
set_option maxHeartbeats 8000000 in
theorem sturned_ok (g : Nat → Addr) (a f n m : Nat) (mid lon lat : Int) (hf : Le 1021 f) (hn : nO f = some n) (hp : tcode a f m lat (nrm lon - nrm mid) = 0) (w : World) (hl : Laid w g) : Calls Tryz.prog 11 #[sV a f mid m, .agg #[.int .i64 lon, .int .i64 lat]] w fun e w' => ∃ q, e = .returned (.tuple #[.float .f64 q, .int .i64 (turI f n lat (nrm lon - nrm mid)), .nilIface]) ∧ GW (scP a f n m lat (nrm lon - nrm mid)) q ∧ Gr w w' := by
  obtain ⟨mF, aF, sF, qF, mD, aD, sD, qD, hm, ha, hss, hq, gm, ga, gs, gq⟩ := ops
  have HL := hid hl
  have HK := hid (fun w hl => cast_u g a f m mid lon lat hf hp w hl)
  have HS := hid (fun w => sseries_ok a f n m mid hn (scode_ok (tcode_ok hp).1).1 w)
  clear hl hp hn
  obtain ⟨d, hd⟩ : ∃ d, nrm lon - nrm mid = d := ⟨_, rfl⟩
  rw [hd] at HK ⊢
  clear hd
  obtain ⟨u, hu⟩ : ∃ u, uI f lat d = u := ⟨_, rfl⟩
  unfold turI scP trR trI
  rw [hu] at HK ⊢
  clear hu
  generalize tRf f lat = oT at HK ⊢
  generalize rRf f lat d = oR at HK ⊢
  generalize vRf f lat d = oV at HK ⊢
  generalize uz (sinV (nrm d)) = s at HK ⊢
  generalize uz (cosV (nrm d)) = c at HK ⊢
  go_enter Tryz.func11, Tryz.ntmps11
  go_wp2_with fail
  refine (HK.out _ (HL.out.below (Gr.out (by ((with_reducible repeat' (first | assumption | refine Gr.drew ?_ | refine Gr.drewN ?_ _ | refine Gr.alloc ?_ _ | refine Gr.set ?_ (by first | omega | (simp; omega)) _ _ | exact Gr.refl _)); done))))).mono ?_
  rintro x w1 ⟨t, r, v, rfl, ht, hr, hv, hB⟩
  have PA : At w1 w.heap.size (sL a f mid m) := At.below hB ((At.new4 w _ _ _ _ _).alloc _)
  have QA : At w1 (w.heap.size + 1) (aL lon lat) := At.below hB (by ((with_reducible repeat' (first | assumption | exact At.new1 _ _ _ | exact At.new2 _ _ _ _ | exact At.new3 _ _ _ _ _ | exact At.new5 _ _ _ _ _ _ _ | exact At.nx1 _ _ _ | exact At.nx2 _ _ _ _ | exact At.nx3 _ _ _ _ _ | exact At.ny1 _ _ _ _ | exact At.ny2 _ _ _ _ _ | exact At.ny3 _ _ _ _ _ _ | exact At.nz1 _ _ _ _ _ | exact At.nz2 _ _ _ _ _ _ | exact At.nz3 _ _ _ _ _ _ _ | exact Has.new1 _ _ _ | exact Has.new2 _ _ _ _ | exact Has.new3 _ _ _ _ _ | exact Has.nx1 _ _ _ | exact Has.nx2 _ _ _ _ | exact Has.nx3 _ _ _ _ _ | exact Has.ny1 _ _ _ _ | exact Has.ny2 _ _ _ _ _ | exact Has.ny3 _ _ _ _ _ _ | exact Has.nz1 _ _ _ _ _ | exact Has.nz2 _ _ _ _ _ _ | exact Has.nz3 _ _ _ _ _ _ _ | refine At.fill1 ?_ _ | refine At.fill2 ?_ _ _ | refine At.fill3 ?_ _ _ _ | refine At.swap ?_ (by first | omega | (simp; omega)) _ _ | refine At.alloc ?_ _ | refine At.drew ?_ | refine At.drewN ?_ _ | refine At.skip ?_ (by first | omega | (simp; omega)) _ _ | refine At.below (by assumption) ?_ | refine Has.alloc ?_ _ | refine Has.drew ?_ | refine Has.drewN ?_ _ | refine Has.set ?_ _ _ _ | refine Has.below (by assumption) ?_)); done))
  have HC : Gr w w1 := Gr.step (by ((with_reducible repeat' (first | assumption | refine Gr.drew ?_ | refine Gr.drewN ?_ _ | refine Gr.alloc ?_ _ | refine Gr.set ?_ (by first | omega | (simp; omega)) _ _ | exact Gr.refl _)); done)) hB
  clear hB HK HL
  go_upto_region 2 with fail
  have KA : At (w1.alloc (.cells #[.float .f64 t, .float .f64 s, .float .f64 c, .float .f64 r, .int .i64 u, .float .f64 v] 66)) w1.heap.size (kL t s c r u v) := At.newRow w1 (kL t s c r u v) 66
  replace HC := HC.alloc (.cells #[.float .f64 t, .float .f64 s, .float .f64 c, .float .f64 r, .int .i64 u, .float .f64 v] 66)
  replace PA := PA.alloc (.cells #[.float .f64 t, .float .f64 s, .float .f64 c, .float .f64 r, .int .i64 u, .float .f64 v] 66)
  replace QA := QA.alloc (.cells #[.float .f64 t, .float .f64 s, .float .f64 c, .float .f64 r, .int .i64 u, .float .f64 v] 66)
  generalize hwd : w1.alloc (.cells #[.float .f64 t, .float .f64 s, .float .f64 c, .float .f64 r, .int .i64 u, .float .f64 v] 66) = w2 at HC PA KA QA ⊢
  clear hwd
  generalize hCC : w1.heap.size = C at KA ⊢
  clear hCC
  obtain ⟨p0, p1, p2, p3⟩ := PA.c4
  go_wp2_with fail
  refine (HS.out _).mono ?_
  rintro x w3 ⟨rr, a0, a1, a2, a3, b0, b1, b2, b3, rfl, hrr, hA, hBf, hB⟩
  replace HC : Gr w w3 := Gr.step HC hB
  replace QA := At.below hB QA
  replace KA := At.below hB KA
  replace PA := At.below hB PA
  clear hB HS p0 p1 p2 p3 hBf
  go_upto_region 5 with fail
  have lK := KA.lt
  have lP := PA.lt
  have lQ := QA.lt
  have AA : At ((w3.alloc (.cells #[.float .f64 a0, .float .f64 a1, .float .f64 a2, .float .f64 a3] 69)).alloc (.cells #[.float .f64 b0, .float .f64 b1, .float .f64 b2, .float .f64 b3] 69)) w3.heap.size (rL a0 a1 a2 a3) := (At.new4 w3 _ _ _ _ _).alloc _
  replace HC := (HC.alloc (.cells #[.float .f64 a0, .float .f64 a1, .float .f64 a2, .float .f64 a3] 69)).alloc (.cells #[.float .f64 b0, .float .f64 b1, .float .f64 b2, .float .f64 b3] 69)
  replace PA := (PA.alloc (.cells #[.float .f64 a0, .float .f64 a1, .float .f64 a2, .float .f64 a3] 69)).alloc (.cells #[.float .f64 b0, .float .f64 b1, .float .f64 b2, .float .f64 b3] 69)
  replace KA := (KA.alloc (.cells #[.float .f64 a0, .float .f64 a1, .float .f64 a2, .float .f64 a3] 69)).alloc (.cells #[.float .f64 b0, .float .f64 b1, .float .f64 b2, .float .f64 b3] 69)
  replace QA := (QA.alloc (.cells #[.float .f64 a0, .float .f64 a1, .float .f64 a2, .float .f64 a3] 69)).alloc (.cells #[.float .f64 b0, .float .f64 b1, .float .f64 b2, .float .f64 b3] 69)
  generalize hwd : (w3.alloc (.cells #[.float .f64 a0, .float .f64 a1, .float .f64 a2, .float .f64 a3] 69)).alloc (.cells #[.float .f64 b0, .float .f64 b1, .float .f64 b2, .float .f64 b3] 69) = w4 at HC AA KA PA QA ⊢
  clear hwd
  generalize hAA : w3.heap.size = D at AA lK lP lQ ⊢
  clear hAA
  have nK : ¬ D = C := by omega
  have nP : ¬ D = w.heap.size := by omega
  have nQ : ¬ D = w.heap.size + 1 := by omega
  have nW : w.heap.size ≤ D := by omega
  clear lK lP lQ
  go_wp2_with fail
  refine wp_loop_rounds 5 ?_
  rw [rounds_succ]
  obtain ⟨r0, r1, r2, r3⟩ := AA.c4
  obtain ⟨f0, f1, f2, f3⟩ := AA.f4
  go_wp2_with fail
  clear r0 r1 r2 r3 f0 f1 f2 f3
  generalize hx : mF _ a0 w4 = x0
  have gx0 : GW (oM (some (floatOfInt .f64 2)) (aS (uz n)).a) x0 := by rw [← hx]; exact gm _ _ _ _ _ (gsm _) hA.1.1
  clear hx
  generalize hwd : World.setCell _ _ _ = v1
  replace HC : Gr w v1 := by rw [← hwd]; exact (HC.drewN _).set nW 0 _
  replace AA : At v1 D (rL x0 a1 a2 a3) := by rw [← hwd]; exact (AA.drewN _).put 0 _
  replace KA : At v1 C (kL t s c r u v) := by rw [← hwd]; exact (KA.drewN _).skip nK 0 _
  replace PA : At v1 w.heap.size (sL a f mid m) := by rw [← hwd]; exact (PA.drewN _).skip nP 0 _
  replace QA : At v1 (w.heap.size + 1) (aL lon lat) := by rw [← hwd]; exact (QA.drewN _).skip nQ 0 _
  clear hwd
  rw [rounds_succ]
  obtain ⟨r0, r1, r2, r3⟩ := AA.c4
  obtain ⟨f0, f1, f2, f3⟩ := AA.f4
  go_wp2_with fail
  clear r0 r1 r2 r3 f0 f1 f2 f3
  generalize hx : mF _ a1 v1 = x1
  have gx1 : GW (oM (some (floatOfInt .f64 4)) (aS (uz n)).b) x1 := by rw [← hx]; exact gm _ _ _ _ _ (gsm _) hA.2.1.1
  clear hx
  generalize hwd : World.setCell _ _ _ = v2
  replace HC : Gr w v2 := by rw [← hwd]; exact (HC.drewN _).set nW 1 _
  replace AA : At v2 D (rL x0 x1 a2 a3) := by rw [← hwd]; exact (AA.drewN _).put 1 _
  replace KA : At v2 C (kL t s c r u v) := by rw [← hwd]; exact (KA.drewN _).skip nK 1 _
  replace PA : At v2 w.heap.size (sL a f mid m) := by rw [← hwd]; exact (PA.drewN _).skip nP 1 _
  replace QA : At v2 (w.heap.size + 1) (aL lon lat) := by rw [← hwd]; exact (QA.drewN _).skip nQ 1 _
  clear hwd
  rw [rounds_succ]
  obtain ⟨r0, r1, r2, r3⟩ := AA.c4
  obtain ⟨f0, f1, f2, f3⟩ := AA.f4
  go_wp2_with fail
  clear r0 r1 r2 r3 f0 f1 f2 f3
  generalize hx : mF _ a2 v2 = x2
  have gx2 : GW (oM (some (floatOfInt .f64 6)) (aS (uz n)).c) x2 := by rw [← hx]; exact gm _ _ _ _ _ (gsm _) hA.2.2.1.1
  clear hx
  generalize hwd : World.setCell _ _ _ = v3
  replace HC : Gr w v3 := by rw [← hwd]; exact (HC.drewN _).set nW 2 _
  replace AA : At v3 D (rL x0 x1 x2 a3) := by rw [← hwd]; exact (AA.drewN _).put 2 _
  replace KA : At v3 C (kL t s c r u v) := by rw [← hwd]; exact (KA.drewN _).skip nK 2 _
  replace PA : At v3 w.heap.size (sL a f mid m) := by rw [← hwd]; exact (PA.drewN _).skip nP 2 _
  replace QA : At v3 (w.heap.size + 1) (aL lon lat) := by rw [← hwd]; exact (QA.drewN _).skip nQ 2 _
  clear hwd
  rw [rounds_succ]
  obtain ⟨r0, r1, r2, r3⟩ := AA.c4
  obtain ⟨f0, f1, f2, f3⟩ := AA.f4
  go_wp2_with fail
  clear r0 r1 r2 r3 f0 f1 f2 f3
  generalize hx : mF _ a3 v3 = x3
  have gx3 : GW (oM (some (floatOfInt .f64 8)) (aS (uz n)).d) x3 := by rw [← hx]; exact gm _ _ _ _ _ (gsm _) hA.2.2.2.1
  clear hx
  generalize hwd : World.setCell _ _ _ = v4
  replace HC : Gr w v4 := by rw [← hwd]; exact (HC.drewN _).set nW 3 _
  replace AA : At v4 D (rL x0 x1 x2 x3) := by rw [← hwd]; exact (AA.drewN _).put 3 _
  replace KA : At v4 C (kL t s c r u v) := by rw [← hwd]; exact (KA.drewN _).skip nK 3 _
  replace PA : At v4 w.heap.size (sL a f mid m) := by rw [← hwd]; exact (PA.drewN _).skip nP 3 _
  replace QA : At v4 (w.heap.size + 1) (aL lon lat) := by rw [← hwd]; exact (QA.drewN _).skip nQ 3 _
  clear hwd
  rw [rounds_succ]
  have hAx : GF (slO (aS (uz n))) x0 x1 x2 x3 := ⟨gx0, gx1, gx2, gx3⟩
  clear gx0 gx1 gx2 gx3 hA
  obtain ⟨k0, k1, k2, k3, k4, k5⟩ := KA.c6
  obtain ⟨r0, r1, r2, r3⟩ := AA.c4
  go_wp2_with fail
  refine (ripple_cosine u (some oneW) (some 0) oV (slO (aS (uz n))) _ _ _ _ _ _ _ (gsm _) (gsm _) hv.1 hAx _).mono ?_
  rintro x w5 ⟨zr, zi, rfl, hzr, hzi, hB⟩
  replace HC : Gr w w5 := Gr.step (by ((with_reducible repeat' (first | assumption | refine Gr.drew ?_ | refine Gr.drewN ?_ _ | refine Gr.alloc ?_ _ | refine Gr.set ?_ (by first | omega | (simp; omega)) _ _ | exact Gr.refl _)); done)) hB
  replace PA := At.below hB PA
  replace QA := At.below hB QA
  replace KA := At.below hB KA
  clear hB AA k0 k1 k2 k3 k4 k5 r0 r1 r2 r3 hAx
  go_wp2_with fail
  refine (hyp_any _ _ _ _ hzr.1 hzi.1 _).mono ?_
  rintro x w6 ⟨h1, rfl, hh1, hB⟩
  replace HC : Gr w w6 := Gr.step HC hB
  replace PA := At.below hB PA
  replace QA := At.below hB QA
  replace KA := At.below hB KA
  clear hB
  go_upto_region 12 with fail
  generalize hl1 : mF rr h1 _ = long
  have glong := gm _ _ _ _ w6 hrr.1 hh1.1
  rw [hl1] at glong
  clear hl1
  generalize hwd : World.drewN w6 _ = w7
  replace HC : Gr w w7 := by rw [← hwd]; exact HC.drewN _
  replace PA : At w7 w.heap.size (sL a f mid m) := by rw [← hwd]; exact PA.drewN _
  replace QA : At w7 (w.heap.size + 1) (aL lon lat) := by rw [← hwd]; exact QA.drewN _
  replace KA : At w7 C (kL t s c r u v) := by rw [← hwd]; exact KA.drewN _
  clear hwd
  go_region_held (fun w' => w'.cell? ⟨w.heap.size, 0, none⟩ = some (.float .f64 a) ∧ w'.cell? ⟨w.heap.size, 1, none⟩ = some (.float .f64 f) ∧ w'.cell? ⟨w.heap.size, 2, none⟩ = some (.int .i64 mid) ∧ w'.cell? ⟨w.heap.size, 3, none⟩ = some (.float .f64 m) ∧ w'.cell? ⟨w.heap.size + 1, 0, none⟩ = some (.int .i64 lon) ∧ w'.cell? ⟨w.heap.size + 1, 1, none⟩ = some (.int .i64 lat))
    ((refine c42 (a := .float .f64 a) (b := .float .f64 f) (c := .int .i64 mid) (d := .float .f64 m) (x := .int .i64 lon) (y := .int .i64 lat) ?_ ?_; all_goals ((with_reducible repeat' (first | assumption | exact At.new1 _ _ _ | exact At.new2 _ _ _ _ | exact At.new3 _ _ _ _ _ | exact At.new5 _ _ _ _ _ _ _ | exact At.nx1 _ _ _ | exact At.nx2 _ _ _ _ | exact At.nx3 _ _ _ _ _ | exact At.ny1 _ _ _ _ | exact At.ny2 _ _ _ _ _ | exact At.ny3 _ _ _ _ _ _ | exact At.nz1 _ _ _ _ _ | exact At.nz2 _ _ _ _ _ _ | exact At.nz3 _ _ _ _ _ _ _ | exact Has.new1 _ _ _ | exact Has.new2 _ _ _ _ | exact Has.new3 _ _ _ _ _ | exact Has.nx1 _ _ _ | exact Has.nx2 _ _ _ _ | exact Has.nx3 _ _ _ _ _ | exact Has.ny1 _ _ _ _ | exact Has.ny2 _ _ _ _ _ | exact Has.ny3 _ _ _ _ _ _ | exact Has.nz1 _ _ _ _ _ | exact Has.nz2 _ _ _ _ _ _ | exact Has.nz3 _ _ _ _ _ _ _ | refine At.fill1 ?_ _ | refine At.fill2 ?_ _ _ | refine At.fill3 ?_ _ _ _ | refine At.swap ?_ (by first | omega | (simp; omega)) _ _ | refine At.alloc ?_ _ | refine At.drew ?_ | refine At.drewN ?_ _ | refine At.skip ?_ (by first | omega | (simp; omega)) _ _ | refine At.below (by assumption) ?_ | refine Has.alloc ?_ _ | refine Has.drew ?_ | refine Has.drewN ?_ _ | refine Has.set ?_ _ _ _ | refine Has.below (by assumption) ?_)); done)))
    ((first
      | (go_at_call 31; refine (cross_any _ _ _ hf _).mono ?_; rintro x w8 ⟨rc, rfl, hcr, hB3⟩; replace HC : Gr w w8 := Gr.step (by ((with_reducible repeat' (first | assumption | refine Gr.drew ?_ | refine Gr.drewN ?_ _ | refine Gr.alloc ?_ _ | refine Gr.set ?_ (by first | omega | (simp; omega)) _ _ | exact Gr.refl _)); done)) hB3; replace PA : At w8 w.heap.size (sL a f mid m) := At.below hB3 (by ((with_reducible repeat' (first | assumption | exact At.new1 _ _ _ | exact At.new2 _ _ _ _ | exact At.new3 _ _ _ _ _ | exact At.new5 _ _ _ _ _ _ _ | exact At.nx1 _ _ _ | exact At.nx2 _ _ _ _ | exact At.nx3 _ _ _ _ _ | exact At.ny1 _ _ _ _ | exact At.ny2 _ _ _ _ _ | exact At.ny3 _ _ _ _ _ _ | exact At.nz1 _ _ _ _ _ | exact At.nz2 _ _ _ _ _ _ | exact At.nz3 _ _ _ _ _ _ _ | exact Has.new1 _ _ _ | exact Has.new2 _ _ _ _ | exact Has.new3 _ _ _ _ _ | exact Has.nx1 _ _ _ | exact Has.nx2 _ _ _ _ | exact Has.nx3 _ _ _ _ _ | exact Has.ny1 _ _ _ _ | exact Has.ny2 _ _ _ _ _ | exact Has.ny3 _ _ _ _ _ _ | exact Has.nz1 _ _ _ _ _ | exact Has.nz2 _ _ _ _ _ _ | exact Has.nz3 _ _ _ _ _ _ _ | refine At.fill1 ?_ _ | refine At.fill2 ?_ _ _ | refine At.fill3 ?_ _ _ _ | refine At.swap ?_ (by first | omega | (simp; omega)) _ _ | refine At.alloc ?_ _ | refine At.drew ?_ | refine At.drewN ?_ _ | refine At.skip ?_ (by first | omega | (simp; omega)) _ _ | refine At.below (by assumption) ?_ | refine Has.alloc ?_ _ | refine Has.drew ?_ | refine Has.drewN ?_ _ | refine Has.set ?_ _ _ _ | refine Has.below (by assumption) ?_)); done)); replace QA : At w8 (w.heap.size + 1) (aL lon lat) := At.below hB3 (by ((with_reducible repeat' (first | assumption | exact At.new1 _ _ _ | exact At.new2 _ _ _ _ | exact At.new3 _ _ _ _ _ | exact At.new5 _ _ _ _ _ _ _ | exact At.nx1 _ _ _ | exact At.nx2 _ _ _ _ | exact At.nx3 _ _ _ _ _ | exact At.ny1 _ _ _ _ | exact At.ny2 _ _ _ _ _ | exact At.ny3 _ _ _ _ _ _ | exact At.nz1 _ _ _ _ _ | exact At.nz2 _ _ _ _ _ _ | exact At.nz3 _ _ _ _ _ _ _ | exact Has.new1 _ _ _ | exact Has.new2 _ _ _ _ | exact Has.new3 _ _ _ _ _ | exact Has.nx1 _ _ _ | exact Has.nx2 _ _ _ _ | exact Has.nx3 _ _ _ _ _ | exact Has.ny1 _ _ _ _ | exact Has.ny2 _ _ _ _ _ | exact Has.ny3 _ _ _ _ _ _ | exact Has.nz1 _ _ _ _ _ | exact Has.nz2 _ _ _ _ _ _ | exact Has.nz3 _ _ _ _ _ _ _ | refine At.fill1 ?_ _ | refine At.fill2 ?_ _ _ | refine At.fill3 ?_ _ _ _ | refine At.swap ?_ (by first | omega | (simp; omega)) _ _ | refine At.alloc ?_ _ | refine At.drew ?_ | refine At.drewN ?_ _ | refine At.skip ?_ (by first | omega | (simp; omega)) _ _ | refine At.below (by assumption) ?_ | refine Has.alloc ?_ _ | refine Has.drew ?_ | refine Has.drewN ?_ _ | refine Has.set ?_ _ _ _ | refine Has.below (by assumption) ?_)); done)); replace KA : At w8 C (kL t s c r u v) := At.below hB3 (by ((with_reducible repeat' (first | assumption | exact At.new1 _ _ _ | exact At.new2 _ _ _ _ | exact At.new3 _ _ _ _ _ | exact At.new5 _ _ _ _ _ _ _ | exact At.nx1 _ _ _ | exact At.nx2 _ _ _ _ | exact At.nx3 _ _ _ _ _ | exact At.ny1 _ _ _ _ | exact At.ny2 _ _ _ _ _ | exact At.ny3 _ _ _ _ _ _ | exact At.nz1 _ _ _ _ _ | exact At.nz2 _ _ _ _ _ _ | exact At.nz3 _ _ _ _ _ _ _ | exact Has.new1 _ _ _ | exact Has.new2 _ _ _ _ | exact Has.new3 _ _ _ _ _ | exact Has.nx1 _ _ _ | exact Has.nx2 _ _ _ _ | exact Has.nx3 _ _ _ _ _ | exact Has.ny1 _ _ _ _ | exact Has.ny2 _ _ _ _ _ | exact Has.ny3 _ _ _ _ _ _ | exact Has.nz1 _ _ _ _ _ | exact Has.nz2 _ _ _ _ _ _ | exact Has.nz3 _ _ _ _ _ _ _ | refine At.fill1 ?_ _ | refine At.fill2 ?_ _ _ | refine At.fill3 ?_ _ _ _ | refine At.swap ?_ (by first | omega | (simp; omega)) _ _ | refine At.alloc ?_ _ | refine At.drew ?_ | refine At.drewN ?_ _ | refine At.skip ?_ (by first | omega | (simp; omega)) _ _ | refine At.below (by assumption) ?_ | refine Has.alloc ?_ _ | refine Has.drew ?_ | refine Has.drewN ?_ _ | refine Has.set ?_ _ _ _ | refine Has.below (by assumption) ?_)); done)); clear hB3)
      | (go_at_call 32; refine (cos_any _ _).mono ?_; rintro x w9 ⟨rfl, hB3⟩; replace HC : Gr w w9 := Gr.step (by ((with_reducible repeat' (first | assumption | refine Gr.drew ?_ | refine Gr.drewN ?_ _ | refine Gr.alloc ?_ _ | refine Gr.set ?_ (by first | omega | (simp; omega)) _ _ | exact Gr.refl _)); done)) hB3; replace PA : At w9 w.heap.size (sL a f mid m) := At.below hB3 (by ((with_reducible repeat' (first | assumption | exact At.new1 _ _ _ | exact At.new2 _ _ _ _ | exact At.new3 _ _ _ _ _ | exact At.new5 _ _ _ _ _ _ _ | exact At.nx1 _ _ _ | exact At.nx2 _ _ _ _ | exact At.nx3 _ _ _ _ _ | exact At.ny1 _ _ _ _ | exact At.ny2 _ _ _ _ _ | exact At.ny3 _ _ _ _ _ _ | exact At.nz1 _ _ _ _ _ | exact At.nz2 _ _ _ _ _ _ | exact At.nz3 _ _ _ _ _ _ _ | exact Has.new1 _ _ _ | exact Has.new2 _ _ _ _ | exact Has.new3 _ _ _ _ _ | exact Has.nx1 _ _ _ | exact Has.nx2 _ _ _ _ | exact Has.nx3 _ _ _ _ _ | exact Has.ny1 _ _ _ _ | exact Has.ny2 _ _ _ _ _ | exact Has.ny3 _ _ _ _ _ _ | exact Has.nz1 _ _ _ _ _ | exact Has.nz2 _ _ _ _ _ _ | exact Has.nz3 _ _ _ _ _ _ _ | refine At.fill1 ?_ _ | refine At.fill2 ?_ _ _ | refine At.fill3 ?_ _ _ _ | refine At.swap ?_ (by first | omega | (simp; omega)) _ _ | refine At.alloc ?_ _ | refine At.drew ?_ | refine At.drewN ?_ _ | refine At.skip ?_ (by first | omega | (simp; omega)) _ _ | refine At.below (by assumption) ?_ | refine Has.alloc ?_ _ | refine Has.drew ?_ | refine Has.drewN ?_ _ | refine Has.set ?_ _ _ _ | refine Has.below (by assumption) ?_)); done)); replace QA : At w9 (w.heap.size + 1) (aL lon lat) := At.below hB3 (by ((with_reducible repeat' (first | assumption | exact At.new1 _ _ _ | exact At.new2 _ _ _ _ | exact At.new3 _ _ _ _ _ | exact At.new5 _ _ _ _ _ _ _ | exact At.nx1 _ _ _ | exact At.nx2 _ _ _ _ | exact At.nx3 _ _ _ _ _ | exact At.ny1 _ _ _ _ | exact At.ny2 _ _ _ _ _ | exact At.ny3 _ _ _ _ _ _ | exact At.nz1 _ _ _ _ _ | exact At.nz2 _ _ _ _ _ _ | exact At.nz3 _ _ _ _ _ _ _ | exact Has.new1 _ _ _ | exact Has.new2 _ _ _ _ | exact Has.new3 _ _ _ _ _ | exact Has.nx1 _ _ _ | exact Has.nx2 _ _ _ _ | exact Has.nx3 _ _ _ _ _ | exact Has.ny1 _ _ _ _ | exact Has.ny2 _ _ _ _ _ | exact Has.ny3 _ _ _ _ _ _ | exact Has.nz1 _ _ _ _ _ | exact Has.nz2 _ _ _ _ _ _ | exact Has.nz3 _ _ _ _ _ _ _ | refine At.fill1 ?_ _ | refine At.fill2 ?_ _ _ | refine At.fill3 ?_ _ _ _ | refine At.swap ?_ (by first | omega | (simp; omega)) _ _ | refine At.alloc ?_ _ | refine At.drew ?_ | refine At.drewN ?_ _ | refine At.skip ?_ (by first | omega | (simp; omega)) _ _ | refine At.below (by assumption) ?_ | refine Has.alloc ?_ _ | refine Has.drew ?_ | refine Has.drewN ?_ _ | refine Has.set ?_ _ _ _ | refine Has.below (by assumption) ?_)); done)); replace KA : At w9 C (kL t s c r u v) := At.below hB3 (by ((with_reducible repeat' (first | assumption | exact At.new1 _ _ _ | exact At.new2 _ _ _ _ | exact At.new3 _ _ _ _ _ | exact At.new5 _ _ _ _ _ _ _ | exact At.nx1 _ _ _ | exact At.nx2 _ _ _ _ | exact At.nx3 _ _ _ _ _ | exact At.ny1 _ _ _ _ | exact At.ny2 _ _ _ _ _ | exact At.ny3 _ _ _ _ _ _ | exact At.nz1 _ _ _ _ _ | exact At.nz2 _ _ _ _ _ _ | exact At.nz3 _ _ _ _ _ _ _ | exact Has.new1 _ _ _ | exact Has.new2 _ _ _ _ | exact Has.new3 _ _ _ _ _ | exact Has.nx1 _ _ _ | exact Has.nx2 _ _ _ _ | exact Has.nx3 _ _ _ _ _ | exact Has.ny1 _ _ _ _ | exact Has.ny2 _ _ _ _ _ | exact Has.ny3 _ _ _ _ _ _ | exact Has.nz1 _ _ _ _ _ | exact Has.nz2 _ _ _ _ _ _ | exact Has.nz3 _ _ _ _ _ _ _ | refine At.fill1 ?_ _ | refine At.fill2 ?_ _ _ | refine At.fill3 ?_ _ _ _ | refine At.swap ?_ (by first | omega | (simp; omega)) _ _ | refine At.alloc ?_ _ | refine At.drew ?_ | refine At.drewN ?_ _ | refine At.skip ?_ (by first | omega | (simp; omega)) _ _ | refine At.below (by assumption) ?_ | refine Has.alloc ?_ _ | refine Has.drew ?_ | refine Has.drewN ?_ _ | refine Has.set ?_ _ _ _ | refine Has.below (by assumption) ?_)); done)); clear hB3)))
  have gwide := gm _ _ _ _ w9 hcr (gsm (uz (cosV (nrm lat))))
  generalize mF rc (uz (cosV (nrm lat))) w9 = wide at gwide ⊢
  generalize hwd : World.drewN w9 _ = w10
  replace HC : Gr w w10 := by rw [← hwd]; exact HC.drewN _
  replace KA : At w10 C (kL t s c r u v) := by rw [← hwd]; exact KA.drewN _
  clear hwd
  clear PA QA hcr
  go_upto_region 13 with fail
  go_cut [15, 16] from 70 to 84 (fun s15 s16 wx => s15 = .int .i64 (angC (oM oT (some s)) (oM (hyO (some oneW) oT) (some c))) ∧ At wx C (kL t s c r u v) ∧ Gr w wx)
  case first =>
    go_region_held (fun w' => w'.cell? ⟨C, 0, none⟩ = some (.float .f64 t) ∧ w'.cell? ⟨C, 1, none⟩ = some (.float .f64 s) ∧ w'.cell? ⟨C, 2, none⟩ = some (.float .f64 c) ∧ w'.cell? ⟨C, 3, none⟩ = some (.float .f64 r) ∧ w'.cell? ⟨C, 4, none⟩ = some (.int .i64 u) ∧ w'.cell? ⟨C, 5, none⟩ = some (.float .f64 v))
      ((refine At.c6 (a := .float .f64 t) (b := .float .f64 s) (c := .float .f64 c) (d := .float .f64 r) (e := .int .i64 u) (f := .float .f64 v) ?_; ((with_reducible repeat' (first | assumption | exact At.new1 _ _ _ | exact At.new2 _ _ _ _ | exact At.new3 _ _ _ _ _ | exact At.new5 _ _ _ _ _ _ _ | exact At.nx1 _ _ _ | exact At.nx2 _ _ _ _ | exact At.nx3 _ _ _ _ _ | exact At.ny1 _ _ _ _ | exact At.ny2 _ _ _ _ _ | exact At.ny3 _ _ _ _ _ _ | exact At.nz1 _ _ _ _ _ | exact At.nz2 _ _ _ _ _ _ | exact At.nz3 _ _ _ _ _ _ _ | exact Has.new1 _ _ _ | exact Has.new2 _ _ _ _ | exact Has.new3 _ _ _ _ _ | exact Has.nx1 _ _ _ | exact Has.nx2 _ _ _ _ | exact Has.nx3 _ _ _ _ _ | exact Has.ny1 _ _ _ _ | exact Has.ny2 _ _ _ _ _ | exact Has.ny3 _ _ _ _ _ _ | exact Has.nz1 _ _ _ _ _ | exact Has.nz2 _ _ _ _ _ _ | exact Has.nz3 _ _ _ _ _ _ _ | refine At.fill1 ?_ _ | refine At.fill2 ?_ _ _ | refine At.fill3 ?_ _ _ _ | refine At.swap ?_ (by first | omega | (simp; omega)) _ _ | refine At.alloc ?_ _ | refine At.drew ?_ | refine At.drewN ?_ _ | refine At.skip ?_ (by first | omega | (simp; omega)) _ _ | refine At.below (by assumption) ?_ | refine Has.alloc ?_ _ | refine Has.drew ?_ | refine Has.drewN ?_ _ | refine Has.set ?_ _ _ _ | refine Has.below (by assumption) ?_)); done)))
      ((first
        | (go_at_call 30; refine (hyp_any (some oneW) oT _ _ (gsm _) ht.1 _).mono ?_; rintro x w11 ⟨h2, rfl, hh2, hB3⟩; replace HC : Gr w w11 := Gr.step (by ((with_reducible repeat' (first | assumption | refine Gr.drew ?_ | refine Gr.drewN ?_ _ | refine Gr.alloc ?_ _ | refine Gr.set ?_ (by first | omega | (simp; omega)) _ _ | exact Gr.refl _)); done)) hB3; replace KA : At w11 C (kL t s c r u v) := At.below hB3 (by ((with_reducible repeat' (first | assumption | exact At.new1 _ _ _ | exact At.new2 _ _ _ _ | exact At.new3 _ _ _ _ _ | exact At.new5 _ _ _ _ _ _ _ | exact At.nx1 _ _ _ | exact At.nx2 _ _ _ _ | exact At.nx3 _ _ _ _ _ | exact At.ny1 _ _ _ _ | exact At.ny2 _ _ _ _ _ | exact At.ny3 _ _ _ _ _ _ | exact At.nz1 _ _ _ _ _ | exact At.nz2 _ _ _ _ _ _ | exact At.nz3 _ _ _ _ _ _ _ | exact Has.new1 _ _ _ | exact Has.new2 _ _ _ _ | exact Has.new3 _ _ _ _ _ | exact Has.nx1 _ _ _ | exact Has.nx2 _ _ _ _ | exact Has.nx3 _ _ _ _ _ | exact Has.ny1 _ _ _ _ | exact Has.ny2 _ _ _ _ _ | exact Has.ny3 _ _ _ _ _ _ | exact Has.nz1 _ _ _ _ _ | exact Has.nz2 _ _ _ _ _ _ | exact Has.nz3 _ _ _ _ _ _ _ | refine At.fill1 ?_ _ | refine At.fill2 ?_ _ _ | refine At.fill3 ?_ _ _ _ | refine At.swap ?_ (by first | omega | (simp; omega)) _ _ | refine At.alloc ?_ _ | refine At.drew ?_ | refine At.drewN ?_ _ | refine At.skip ?_ (by first | omega | (simp; omega)) _ _ | refine At.below (by assumption) ?_ | refine Has.alloc ?_ _ | refine Has.drew ?_ | refine Has.drewN ?_ _ | refine Has.set ?_ _ _ _ | refine Has.below (by assumption) ?_)); done)); clear hB3)
        | (go_at_call 33; refine (angle_any _ _ (gm _ _ _ _ _ ht.1 (gsm s)).2 (gm _ _ _ _ _ hh2.1 (gsm c)).2 _).mono ?_; rintro x w12 ⟨rfl, hB3⟩; rw [angC_got (gm _ _ _ _ _ ht.1 (gsm s)).1 (gm _ _ _ _ _ hh2.1 (gsm c)).1]; replace HC : Gr w w12 := Gr.step (by ((with_reducible repeat' (first | assumption | refine Gr.drew ?_ | refine Gr.drewN ?_ _ | refine Gr.alloc ?_ _ | refine Gr.set ?_ (by first | omega | (simp; omega)) _ _ | exact Gr.refl _)); done)) hB3; replace KA : At w12 C (kL t s c r u v) := At.below hB3 (by ((with_reducible repeat' (first | assumption | exact At.new1 _ _ _ | exact At.new2 _ _ _ _ | exact At.new3 _ _ _ _ _ | exact At.new5 _ _ _ _ _ _ _ | exact At.nx1 _ _ _ | exact At.nx2 _ _ _ _ | exact At.nx3 _ _ _ _ _ | exact At.ny1 _ _ _ _ | exact At.ny2 _ _ _ _ _ | exact At.ny3 _ _ _ _ _ _ | exact At.nz1 _ _ _ _ _ | exact At.nz2 _ _ _ _ _ _ | exact At.nz3 _ _ _ _ _ _ _ | exact Has.new1 _ _ _ | exact Has.new2 _ _ _ _ | exact Has.new3 _ _ _ _ _ | exact Has.nx1 _ _ _ | exact Has.nx2 _ _ _ _ | exact Has.nx3 _ _ _ _ _ | exact Has.ny1 _ _ _ _ | exact Has.ny2 _ _ _ _ _ | exact Has.ny3 _ _ _ _ _ _ | exact Has.nz1 _ _ _ _ _ | exact Has.nz2 _ _ _ _ _ _ | exact Has.nz3 _ _ _ _ _ _ _ | refine At.fill1 ?_ _ | refine At.fill2 ?_ _ _ | refine At.fill3 ?_ _ _ _ | refine At.swap ?_ (by first | omega | (simp; omega)) _ _ | refine At.alloc ?_ _ | refine At.drew ?_ | refine At.drewN ?_ _ | refine At.skip ?_ (by first | omega | (simp; omega)) _ _ | refine At.below (by assumption) ?_ | refine Has.alloc ?_ _ | refine Has.drew ?_ | refine Has.drewN ?_ _ | refine Has.set ?_ _ _ _ | refine Has.below (by assumption) ?_)); done)); clear hB3)))
    all_goals
      go_wp2_with fail
      go_meet
      exact ⟨rfl, by ((with_reducible repeat' (first | assumption | exact At.new1 _ _ _ | exact At.new2 _ _ _ _ | exact At.new3 _ _ _ _ _ | exact At.new5 _ _ _ _ _ _ _ | exact At.nx1 _ _ _ | exact At.nx2 _ _ _ _ | exact At.nx3 _ _ _ _ _ | exact At.ny1 _ _ _ _ | exact At.ny2 _ _ _ _ _ | exact At.ny3 _ _ _ _ _ _ | exact At.nz1 _ _ _ _ _ | exact At.nz2 _ _ _ _ _ _ | exact At.nz3 _ _ _ _ _ _ _ | exact Has.new1 _ _ _ | exact Has.new2 _ _ _ _ | exact Has.new3 _ _ _ _ _ | exact Has.nx1 _ _ _ | exact Has.nx2 _ _ _ _ | exact Has.nx3 _ _ _ _ _ | exact Has.ny1 _ _ _ _ | exact Has.ny2 _ _ _ _ _ | exact Has.ny3 _ _ _ _ _ _ | exact Has.nz1 _ _ _ _ _ | exact Has.nz2 _ _ _ _ _ _ | exact Has.nz3 _ _ _ _ _ _ _ | refine At.fill1 ?_ _ | refine At.fill2 ?_ _ _ | refine At.fill3 ?_ _ _ _ | refine At.swap ?_ (by first | omega | (simp; omega)) _ _ | refine At.alloc ?_ _ | refine At.drew ?_ | refine At.drewN ?_ _ | refine At.skip ?_ (by first | omega | (simp; omega)) _ _ | refine At.below (by assumption) ?_ | refine Has.alloc ?_ _ | refine Has.drew ?_ | refine Has.drewN ?_ _ | refine Has.set ?_ _ _ _ | refine Has.below (by assumption) ?_)); done), by ((with_reducible repeat' (first | assumption | refine Gr.drew ?_ | refine Gr.drewN ?_ _ | refine Gr.alloc ?_ _ | refine Gr.set ?_ (by first | omega | (simp; omega)) _ _ | exact Gr.refl _)); done)⟩
  case rest =>
    clear KA HC
    obtain ⟨rfl, KA, HC⟩ := hcut
    generalize ho1 : angC (oM oT (some s)) (oM (hyO (some oneW) oT) (some c)) = one
    have hob : 0 ≤ one ∧ one ≤ 360000000000 := by rw [← ho1]; exact angC_bd _ _
    have HO1 := hid ho1
    clear ho1
    go_wp2_with fail
    refine (angle_any _ _ hzi.2 hzr.2 _).mono ?_
    rintro x w13 ⟨rfl, hB3⟩
    rw [angC_got hzi.1 hzr.1]
    replace HC : Gr w w13 := Gr.step (by ((with_reducible repeat' (first | assumption | refine Gr.drew ?_ | refine Gr.drewN ?_ _ | refine Gr.alloc ?_ _ | refine Gr.set ?_ (by first | omega | (simp; omega)) _ _ | exact Gr.refl _)); done)) hB3
    replace KA := At.below hB3 KA
    clear hB3
    generalize ho2 : angC _ _ = two
    have htb : 0 ≤ two ∧ two ≤ 360000000000 := by rw [← ho2]; exact angC_bd _ _
    have HO2 := hid ho2
    clear ho2
    have hwr : IntKind.i64.wrap (one - two) = one - two := by simp [IntKind.wrap, IntKind.signed, IntKind.bits]; omega
    clear hob htb
    go_upto_region 15 with fail
    go_region_held (fun w' => w'.cell? ⟨C, 0, none⟩ = some (.float .f64 t) ∧ w'.cell? ⟨C, 1, none⟩ = some (.float .f64 s) ∧ w'.cell? ⟨C, 2, none⟩ = some (.float .f64 c) ∧ w'.cell? ⟨C, 3, none⟩ = some (.float .f64 r) ∧ w'.cell? ⟨C, 4, none⟩ = some (.int .i64 u) ∧ w'.cell? ⟨C, 5, none⟩ = some (.float .f64 v))
      ((refine At.c6 (a := .float .f64 t) (b := .float .f64 s) (c := .float .f64 c) (d := .float .f64 r) (e := .int .i64 u) (f := .float .f64 v) ?_; ((with_reducible repeat' (first | assumption | exact At.new1 _ _ _ | exact At.new2 _ _ _ _ | exact At.new3 _ _ _ _ _ | exact At.new5 _ _ _ _ _ _ _ | exact At.nx1 _ _ _ | exact At.nx2 _ _ _ _ | exact At.nx3 _ _ _ _ _ | exact At.ny1 _ _ _ _ | exact At.ny2 _ _ _ _ _ | exact At.ny3 _ _ _ _ _ _ | exact At.nz1 _ _ _ _ _ | exact At.nz2 _ _ _ _ _ _ | exact At.nz3 _ _ _ _ _ _ _ | exact Has.new1 _ _ _ | exact Has.new2 _ _ _ _ | exact Has.new3 _ _ _ _ _ | exact Has.nx1 _ _ _ | exact Has.nx2 _ _ _ _ | exact Has.nx3 _ _ _ _ _ | exact Has.ny1 _ _ _ _ | exact Has.ny2 _ _ _ _ _ | exact Has.ny3 _ _ _ _ _ _ | exact Has.nz1 _ _ _ _ _ | exact Has.nz2 _ _ _ _ _ _ | exact Has.nz3 _ _ _ _ _ _ _ | refine At.fill1 ?_ _ | refine At.fill2 ?_ _ _ | refine At.fill3 ?_ _ _ _ | refine At.swap ?_ (by first | omega | (simp; omega)) _ _ | refine At.alloc ?_ _ | refine At.drew ?_ | refine At.drewN ?_ _ | refine At.skip ?_ (by first | omega | (simp; omega)) _ _ | refine At.below (by assumption) ?_ | refine Has.alloc ?_ _ | refine Has.drew ?_ | refine Has.drewN ?_ _ | refine Has.set ?_ _ _ _ | refine Has.below (by assumption) ?_)); done)))
      ((go_at_call 34; refine (signed_any _ _).mono ?_; rintro x wp ⟨rfl, rfl⟩))
    all_goals
      go_wp2
      go_ret3
      rw [HO1.out, HO2.out]
      exact ⟨_, rfl, gq _ _ _ _ _ glong.1 (gm _ _ _ _ _ gwide.1 hr.1).1, by ((with_reducible repeat' (first | assumption | refine Gr.drew ?_ | refine Gr.drewN ?_ _ | refine Gr.alloc ?_ _ | refine Gr.set ?_ (by first | omega | (simp; omega)) _ _ | exact Gr.refl _)); done)⟩
set_option maxHeartbeats 2000000 in
theorem sturned_no (g : Nat → Addr) (a f m i : Nat) (mid lon lat : Int) (hp : evOf g (tcode a f m lat (nrm lon - nrm mid)) = errV g i) (w : World) (hl : Laid w g) : Calls Tryz.prog 11 #[sV a f mid m, .agg #[.int .i64 lon, .int .i64 lat]] w fun e w' => e = .returned (.tuple #[.float .f64 0, .int .i64 0, errV g i]) ∧ Gr w w' := by
  have HL := hid hl
  have HK := hid (fun w hl => cast_no g a f m i mid lon lat hp w hl)
  clear hl hp
  go_enter Tryz.func11, Tryz.ntmps11
  go_wp2_with fail
  refine (HK.out _ (HL.out.below (Gr.out (by ((with_reducible repeat' (first | assumption | refine Gr.drew ?_ | refine Gr.drewN ?_ _ | refine Gr.alloc ?_ _ | refine Gr.set ?_ (by first | omega | (simp; omega)) _ _ | exact Gr.refl _)); done))))).mono ?_
  rintro x w1 ⟨rfl, hB⟩
  have HC : Gr w w1 := Gr.step (by ((with_reducible repeat' (first | assumption | refine Gr.drew ?_ | refine Gr.drewN ?_ _ | refine Gr.alloc ?_ _ | refine Gr.set ?_ (by first | omega | (simp; omega)) _ _ | exact Gr.refl _)); done)) hB
  clear hB
  go_wp2
  exact bodyPost_ret (v := .tuple #[.float .f64 0, .int .i64 0, errV g i]) (by simp [results, Tryz.results11, go_sem]) rfl ⟨rfl, by ((with_reducible repeat' (first | assumption | refine Gr.drew ?_ | refine Gr.drewN ?_ _ | refine Gr.alloc ?_ _ | refine Gr.set ?_ (by first | omega | (simp; omega)) _ _ | exact Gr.refl _)); done)⟩
end Go.Proofs.YtinopkmcddjgdaaGreatDoor
