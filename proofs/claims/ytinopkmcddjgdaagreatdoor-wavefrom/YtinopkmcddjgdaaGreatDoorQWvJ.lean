/-
  wave.Strip: To.
-/
import Derived.Test.YtinopkmcddjgdaaGreatDoorQWvS
namespace Go.Proofs.YtinopkmcddjgdaaGreatDoor
open Go.RowKit FB
attribute [local go_sem] run_store_float

theorem cast_u (g : Nat → Addr) (a f m : Nat) (mid lon lat : Int) (hf : Le 1021 f) (hp : tcode a f m lat (nrm lon - nrm mid) = 0) (w : World) (hl : Laid w g) : Calls Tryz.prog 24 #[sV a f mid m, .agg #[.int .i64 lon, .int .i64 lat]] w fun e w' => ∃ t r v, e = .returned (.tuple #[kV t (uz (sinV (nrm (nrm lon - nrm mid)))) (uz (cosV (nrm (nrm lon - nrm mid)))) r (uI f lat (nrm lon - nrm mid)) v, .nilIface]) ∧ GW (tRf f lat) t ∧ GW (rRf f lat (nrm lon - nrm mid)) r ∧ GW (vRf f lat (nrm lon - nrm mid)) v ∧ Gr w w' := by
  refine (cast_ok g a f m mid lon lat hf hp w hl).mono ?_
  rintro e w' ⟨t, r, v, rfl, ht, hr, hv, hB⟩
  rw [tn_eq] at ht
  rw [rt_eq] at hr
  rw [vv_eq] at hv
  rw [uI_got ht.1 (uz_cos _)]
  exact ⟨t, r, v, rfl, ht, hr, hv, hB⟩
/-- The point of a place, by its series. -/
noncomputable def zsR (f n : Nat) (lat d : Int) : Option Nat := ripO snR (oM (some (floatOfInt .f64 (uI f lat d))) (some 4445950764994258515)) (uI f lat d) (vRf f lat d) (aS (uz n))
noncomputable def zsI (f n : Nat) (lat d : Int) : Option Nat := ripO snI (vRf f lat d) (uI f lat d) (vRf f lat d) (aS (uz n))
set_option maxHeartbeats 8000000 in
theorem sto_ok (g : Nat → Addr) (a f n m : Nat) (mid lon lat : Int) (hf : Le 1021 f) (hn : nO f = some n) (hp : tcode a f m lat (nrm lon - nrm mid) = 0) (w : World) (hl : Laid w g) : Calls Tryz.prog 10 #[sV a f mid m, .agg #[.int .i64 lon, .int .i64 lat]] w fun e w' => ∃ x y, e = .returned (.tuple #[fV (uz x) (uz y), .nilIface]) ∧ GW (oM (srO a (uz n) m) (zsI f n lat (nrm lon - nrm mid))) x ∧ GW (oM (srO a (uz n) m) (zsR f n lat (nrm lon - nrm mid))) y ∧ Gr w w' := by
  obtain ⟨mF, aF, sF, qF, mD, aD, sD, qD, hm, ha, hss, hq, gm, ga, gs, gq⟩ := ops
  have HL := hid hl
  have HK := hid (fun w hl => cast_u g a f m mid lon lat hf hp w hl)
  have HS := hid (fun w => sseries_ok a f n m mid hn (scode_ok (tcode_ok hp).1).1 w)
  clear hl hp hf hn
  obtain ⟨d, hd⟩ : ∃ d, nrm lon - nrm mid = d := ⟨_, rfl⟩
  rw [hd] at HK ⊢
  clear hd
  obtain ⟨u, hu⟩ : ∃ u, uI f lat d = u := ⟨_, rfl⟩
  unfold zsR zsI
  rw [hu] at HK ⊢
  clear hu
  generalize tRf f lat = oT at HK
  generalize rRf f lat d = oR at HK
  generalize vRf f lat d = oV at HK ⊢
  generalize uz (sinV (nrm d)) = s at HK
  generalize uz (cosV (nrm d)) = c at HK
  go_enter Tryz.func10, Tryz.ntmps10
  go_wp2_with fail
  refine (HK.out _ (HL.out.below (Gr.out (by ((with_reducible repeat' (first | assumption | refine Gr.drew ?_ | refine Gr.drewN ?_ _ | refine Gr.alloc ?_ _ | refine Gr.set ?_ (by first | omega | (simp; omega)) _ _ | exact Gr.refl _)); done))))).mono ?_
  rintro x w1 ⟨t, r, v, rfl, ht, hr, hv, hB⟩
  have PA : At w1 w.heap.size (sL a f mid m) := At.below hB (((At.new4 w _ _ _ _ _).alloc _).alloc _)
  have RA : At w1 (w.heap.size + 1 + 1) (fL 0 0) := At.below hB (by ((with_reducible repeat' (first | assumption | exact At.new1 _ _ _ | exact At.new2 _ _ _ _ | exact At.new3 _ _ _ _ _ | exact At.new5 _ _ _ _ _ _ _ | exact At.nx1 _ _ _ | exact At.nx2 _ _ _ _ | exact At.nx3 _ _ _ _ _ | exact At.ny1 _ _ _ _ | exact At.ny2 _ _ _ _ _ | exact At.ny3 _ _ _ _ _ _ | exact At.nz1 _ _ _ _ _ | exact At.nz2 _ _ _ _ _ _ | exact At.nz3 _ _ _ _ _ _ _ | exact Has.new1 _ _ _ | exact Has.new2 _ _ _ _ | exact Has.new3 _ _ _ _ _ | exact Has.nx1 _ _ _ | exact Has.nx2 _ _ _ _ | exact Has.nx3 _ _ _ _ _ | exact Has.ny1 _ _ _ _ | exact Has.ny2 _ _ _ _ _ | exact Has.ny3 _ _ _ _ _ _ | exact Has.nz1 _ _ _ _ _ | exact Has.nz2 _ _ _ _ _ _ | exact Has.nz3 _ _ _ _ _ _ _ | refine At.fill1 ?_ _ | refine At.fill2 ?_ _ _ | refine At.fill3 ?_ _ _ _ | refine At.swap ?_ (by first | omega | (simp; omega)) _ _ | refine At.alloc ?_ _ | refine At.drew ?_ | refine At.drewN ?_ _ | refine At.skip ?_ (by first | omega | (simp; omega)) _ _ | refine At.below (by assumption) ?_ | refine Has.alloc ?_ _ | refine Has.drew ?_ | refine Has.drewN ?_ _ | refine Has.set ?_ _ _ _ | refine Has.below (by assumption) ?_)); done))
  have HC : Gr w w1 := Gr.step (by ((with_reducible repeat' (first | assumption | refine Gr.drew ?_ | refine Gr.drewN ?_ _ | refine Gr.alloc ?_ _ | refine Gr.set ?_ (by first | omega | (simp; omega)) _ _ | exact Gr.refl _)); done)) hB
  clear hB HK HL
  go_upto_region 2 with fail
  have KA : At (w1.alloc (.cells #[.float .f64 t, .float .f64 s, .float .f64 c, .float .f64 r, .int .i64 u, .float .f64 v] 66)) w1.heap.size (kL t s c r u v) := At.newRow w1 (kL t s c r u v) 66
  replace HC := HC.alloc (.cells #[.float .f64 t, .float .f64 s, .float .f64 c, .float .f64 r, .int .i64 u, .float .f64 v] 66)
  replace PA := PA.alloc (.cells #[.float .f64 t, .float .f64 s, .float .f64 c, .float .f64 r, .int .i64 u, .float .f64 v] 66)
  replace RA := RA.alloc (.cells #[.float .f64 t, .float .f64 s, .float .f64 c, .float .f64 r, .int .i64 u, .float .f64 v] 66)
  generalize hwd : w1.alloc (.cells #[.float .f64 t, .float .f64 s, .float .f64 c, .float .f64 r, .int .i64 u, .float .f64 v] 66) = w2 at HC PA KA RA ⊢
  clear hwd
  generalize hCC : w1.heap.size = C at KA ⊢
  clear hCC
  obtain ⟨p0, p1, p2, p3⟩ := PA.c4
  go_wp2_with fail
  refine (HS.out _).mono ?_
  rintro x w3 ⟨rr, a0, a1, a2, a3, b0, b1, b2, b3, rfl, hrr, hA, hBf, hB⟩
  replace HC : Gr w w3 := Gr.step HC hB
  replace RA := At.below hB RA
  replace KA := At.below hB KA
  clear hB HS p0 p1 p2 p3 PA hBf
  go_upto_region 5 with fail
  have AA : At ((w3.alloc (.cells #[.float .f64 a0, .float .f64 a1, .float .f64 a2, .float .f64 a3] 69)).alloc (.cells #[.float .f64 b0, .float .f64 b1, .float .f64 b2, .float .f64 b3] 69)) w3.heap.size (rL a0 a1 a2 a3) := (At.new4 w3 _ _ _ _ _).alloc _
  replace HC := (HC.alloc (.cells #[.float .f64 a0, .float .f64 a1, .float .f64 a2, .float .f64 a3] 69)).alloc (.cells #[.float .f64 b0, .float .f64 b1, .float .f64 b2, .float .f64 b3] 69)
  replace KA := (KA.alloc (.cells #[.float .f64 a0, .float .f64 a1, .float .f64 a2, .float .f64 a3] 69)).alloc (.cells #[.float .f64 b0, .float .f64 b1, .float .f64 b2, .float .f64 b3] 69)
  replace RA := (RA.alloc (.cells #[.float .f64 a0, .float .f64 a1, .float .f64 a2, .float .f64 a3] 69)).alloc (.cells #[.float .f64 b0, .float .f64 b1, .float .f64 b2, .float .f64 b3] 69)
  generalize hwd : (w3.alloc (.cells #[.float .f64 a0, .float .f64 a1, .float .f64 a2, .float .f64 a3] 69)).alloc (.cells #[.float .f64 b0, .float .f64 b1, .float .f64 b2, .float .f64 b3] 69) = w4 at HC AA KA RA ⊢
  clear hwd
  generalize hAA : w3.heap.size = D at AA ⊢
  clear hAA
  obtain ⟨k0, k1, k2, k3, k4, k5⟩ := KA.c6
  obtain ⟨r0, r1, r2, r3⟩ := AA.c4
  go_wp2_with fail
  generalize hq1 : mF (floatOfInt .f64 u) 4445950764994258515 w4 = q1
  have gq1 : GW (oM (some (floatOfInt .f64 u)) (some 4445950764994258515)) q1 := by rw [← hq1]; exact gm _ _ _ _ _ (gsm _) (gsm _)
  clear hq1
  refine (ripple_sine u (oM (some (floatOfInt .f64 u)) (some 4445950764994258515)) oV oV (aS (uz n)) _ _ _ _ _ _ _ gq1.1 hv.1 hv.1 hA _).mono ?_
  rintro x w5 ⟨zr, zi, rfl, hzr, hzi, hB⟩
  replace HC : Gr w w5 := Gr.step (by ((with_reducible repeat' (first | assumption | refine Gr.drew ?_ | refine Gr.drewN ?_ _ | refine Gr.alloc ?_ _ | refine Gr.set ?_ (by first | omega | (simp; omega)) _ _ | exact Gr.refl _)); done)) hB
  replace RA : At w5 (w.heap.size + 1 + 1) (fL 0 0) := At.below hB (by ((with_reducible repeat' (first | assumption | exact At.new1 _ _ _ | exact At.new2 _ _ _ _ | exact At.new3 _ _ _ _ _ | exact At.new5 _ _ _ _ _ _ _ | exact At.nx1 _ _ _ | exact At.nx2 _ _ _ _ | exact At.nx3 _ _ _ _ _ | exact At.ny1 _ _ _ _ | exact At.ny2 _ _ _ _ _ | exact At.ny3 _ _ _ _ _ _ | exact At.nz1 _ _ _ _ _ | exact At.nz2 _ _ _ _ _ _ | exact At.nz3 _ _ _ _ _ _ _ | exact Has.new1 _ _ _ | exact Has.new2 _ _ _ _ | exact Has.new3 _ _ _ _ _ | exact Has.nx1 _ _ _ | exact Has.nx2 _ _ _ _ | exact Has.nx3 _ _ _ _ _ | exact Has.ny1 _ _ _ _ | exact Has.ny2 _ _ _ _ _ | exact Has.ny3 _ _ _ _ _ _ | exact Has.nz1 _ _ _ _ _ | exact Has.nz2 _ _ _ _ _ _ | exact Has.nz3 _ _ _ _ _ _ _ | refine At.fill1 ?_ _ | refine At.fill2 ?_ _ _ | refine At.fill3 ?_ _ _ _ | refine At.swap ?_ (by first | omega | (simp; omega)) _ _ | refine At.alloc ?_ _ | refine At.drew ?_ | refine At.drewN ?_ _ | refine At.skip ?_ (by first | omega | (simp; omega)) _ _ | refine At.below (by assumption) ?_ | refine Has.alloc ?_ _ | refine Has.drew ?_ | refine Has.drewN ?_ _ | refine Has.set ?_ _ _ _ | refine Has.below (by assumption) ?_)); done))
  clear hB KA AA k0 k1 k2 k3 k4 k5 r0 r1 r2 r3 hA gq1 hr ht hv
  obtain ⟨y0, y1⟩ := RA.c2
  obtain ⟨z0, z1⟩ := RA.f2
  have lr := RA.lt
  go_wp2_with (go_at_call 28; refine (uz_any _ _).mono ?_; rintro x w7 ⟨rfl, rfl⟩)
  exact bodyPost_ret (v := .tuple #[fV (uz (mF rr zi w5)) (uz (mF rr zr (w5.drewN (mD rr zi)))), .nilIface]) (by simp [results, Tryz.results10, go_sem, y0, y1]) rfl ⟨_, _, rfl, gm _ _ _ _ _ hrr.1 hzi.1, gm _ _ _ _ _ hrr.1 hzr.1, by ((with_reducible repeat' (first | assumption | refine Gr.drew ?_ | refine Gr.drewN ?_ _ | refine Gr.alloc ?_ _ | refine Gr.set ?_ (by first | omega | (simp; omega)) _ _ | exact Gr.refl _)); done)⟩
/-- A cast that is none. -/
theorem cast_no (g : Nat → Addr) (a f m i : Nat) (mid lon lat : Int) (hp : evOf g (tcode a f m lat (nrm lon - nrm mid)) = errV g i) (w : World) (hl : Laid w g) : Calls Tryz.prog 24 #[sV a f mid m, .agg #[.int .i64 lon, .int .i64 lat]] w fun e w' => e = .returned (.tuple #[kV 0 0 0 0 0 0, errV g i]) ∧ Gr w w' := by
  unfold tcode at hp
  by_cases h : scode a f m = 0
  · rw [if_pos h] at hp
    by_cases h2 : offS lat (nrm lon - nrm mid)
    · rw [if_pos h2] at hp
      rw [← hp]
      exact cast_no2 g a f m mid lon lat h h2 w hl
    · rw [if_neg h2] at hp; cases hp
  · rw [if_neg h] at hp
    exact cast_no1 g a f m i mid lon lat hp w hl
set_option maxHeartbeats 2000000 in
theorem sto_no (g : Nat → Addr) (a f m i : Nat) (mid lon lat : Int) (hp : evOf g (tcode a f m lat (nrm lon - nrm mid)) = errV g i) (w : World) (hl : Laid w g) : Calls Tryz.prog 10 #[sV a f mid m, .agg #[.int .i64 lon, .int .i64 lat]] w fun e w' => e = .returned (.tuple #[fV 0 0, errV g i]) ∧ Gr w w' := by
  have HL := hid hl
  have HK := hid (fun w hl => cast_no g a f m i mid lon lat hp w hl)
  clear hl hp
  go_enter Tryz.func10, Tryz.ntmps10
  go_wp2_with fail
  refine (HK.out _ (HL.out.below (Gr.out (by ((with_reducible repeat' (first | assumption | refine Gr.drew ?_ | refine Gr.drewN ?_ _ | refine Gr.alloc ?_ _ | refine Gr.set ?_ (by first | omega | (simp; omega)) _ _ | exact Gr.refl _)); done))))).mono ?_
  rintro x w1 ⟨rfl, hB⟩
  have RA : At w1 (w.heap.size + 1 + 1) (fL 0 0) := At.below hB (by ((with_reducible repeat' (first | assumption | exact At.new1 _ _ _ | exact At.new2 _ _ _ _ | exact At.new3 _ _ _ _ _ | exact At.new5 _ _ _ _ _ _ _ | exact At.nx1 _ _ _ | exact At.nx2 _ _ _ _ | exact At.nx3 _ _ _ _ _ | exact At.ny1 _ _ _ _ | exact At.ny2 _ _ _ _ _ | exact At.ny3 _ _ _ _ _ _ | exact At.nz1 _ _ _ _ _ | exact At.nz2 _ _ _ _ _ _ | exact At.nz3 _ _ _ _ _ _ _ | exact Has.new1 _ _ _ | exact Has.new2 _ _ _ _ | exact Has.new3 _ _ _ _ _ | exact Has.nx1 _ _ _ | exact Has.nx2 _ _ _ _ | exact Has.nx3 _ _ _ _ _ | exact Has.ny1 _ _ _ _ | exact Has.ny2 _ _ _ _ _ | exact Has.ny3 _ _ _ _ _ _ | exact Has.nz1 _ _ _ _ _ | exact Has.nz2 _ _ _ _ _ _ | exact Has.nz3 _ _ _ _ _ _ _ | refine At.fill1 ?_ _ | refine At.fill2 ?_ _ _ | refine At.fill3 ?_ _ _ _ | refine At.swap ?_ (by first | omega | (simp; omega)) _ _ | refine At.alloc ?_ _ | refine At.drew ?_ | refine At.drewN ?_ _ | refine At.skip ?_ (by first | omega | (simp; omega)) _ _ | refine At.below (by assumption) ?_ | refine Has.alloc ?_ _ | refine Has.drew ?_ | refine Has.drewN ?_ _ | refine Has.set ?_ _ _ _ | refine Has.below (by assumption) ?_)); done))
  have HC : Gr w w1 := Gr.step (by ((with_reducible repeat' (first | assumption | refine Gr.drew ?_ | refine Gr.drewN ?_ _ | refine Gr.alloc ?_ _ | refine Gr.set ?_ (by first | omega | (simp; omega)) _ _ | exact Gr.refl _)); done)) hB
  clear hB
  have lr := RA.lt
  replace HC := HC.alloc (.cells #[.float .f64 0, .float .f64 0, .float .f64 0, .float .f64 0, .int .i64 0, .float .f64 0] 66)
  replace RA := RA.alloc (.cells #[.float .f64 0, .float .f64 0, .float .f64 0, .float .f64 0, .int .i64 0, .float .f64 0] 66)
  go_upto_region 2 with fail
  generalize hwd : w1.alloc (.cells #[.float .f64 0, .float .f64 0, .float .f64 0, .float .f64 0, .int .i64 0, .float .f64 0] 66) = w2 at HC RA ⊢
  clear hwd
  obtain ⟨r0, r1⟩ := RA.c2
  obtain ⟨f0, f1⟩ := RA.f2
  go_wp2
  exact bodyPost_ret (v := .tuple #[fV 0 0, errV g i]) (by simp [results, Tryz.results10, go_sem, r0, r1]) rfl ⟨rfl, by ((with_reducible repeat' (first | assumption | refine Gr.drew ?_ | refine Gr.drewN ?_ _ | refine Gr.alloc ?_ _ | refine Gr.set ?_ (by first | omega | (simp; omega)) _ _ | exact Gr.refl _)); done)⟩
end Go.Proofs.YtinopkmcddjgdaaGreatDoor
