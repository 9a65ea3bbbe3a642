/-
  mercatorref2: FlatOf.
-/
import Derived.Test.YtkebgnemccaimaaGreatDoorFtH
namespace Go.Proofs.YtkebgnemccaimaaGreatDoor
open Go.RowKit FB
attribute [local go_sem] run_store_float

noncomputable def rX (a f m : Nat) (k : ByteArray) (lat off : Int) : Option Nat := if kd k = 2 then oM (dnO a m f lat) (some (sinV (nrm off))) else asO a m off
noncomputable def rY (a f m : Nat) (k : ByteArray) (lat off : Int) : Option Nat := if kd k = 0 then oM (raO a m) (isO f lat) else if kd k = 1 then upS a m f (sinV (nrm lat)) else oN (oM (dnO a m f lat) (some (cosV (nrm off))))

set_option maxHeartbeats 8000000 in
theorem flatOf_k0 (a f m : Nat) (k : ByteArray) (mid lon lat : Int) (hf : Le 1021 f) (hk : Kd k true false false) (w : World) : Calls Tryz.prog 16 #[pV a f k mid m, .agg #[.int .i64 lon, .int .i64 lat]] w fun e w' => ∃ x y, e = .returned (fV x y) ∧ GW (asO a m (nrm lon - nrm mid)) x ∧ GW (oM (raO a m) (isO f lat)) y ∧ Gr w w' := by
  obtain ⟨mF, aF, sF, qF, mD, aD, sD, qD, hm, ha, hss, hq, gm, ga, gs, gq⟩ := ops
  have hng := hnegA
  obtain ⟨t0, t1, t2⟩ := hk
  obtain ⟨l0, l1⟩ := nrm_lt lon
  obtain ⟨d0, d1⟩ := nrm_lt mid
  have hw : IntKind.i64.wrap (nrm lon - nrm mid) = nrm lon - nrm mid := by simp [IntKind.wrap, IntKind.signed, IntKind.bits]; omega
  go_enter Tryz.func16, Tryz.ntmps16
  go_upto_region 1 with fail
  have PA : At (((w.alloc (.cells #[.float .f64 a, .float .f64 f, .string k, .int .i64 mid, .float .f64 m] 26)).alloc (.cells #[.int .i64 lon, .int .i64 lat] 28)).alloc (.cells #[.float .f64 0, .float .f64 0] 40)) w.heap.size (pL a f k mid m) := by ((with_reducible repeat' (first | assumption | exact At.new1 _ _ _ | exact At.new2 _ _ _ _ | exact At.new3 _ _ _ _ _ | exact At.new5 _ _ _ _ _ _ _ | exact At.nx1 _ _ _ | exact At.nx2 _ _ _ _ | exact At.nx3 _ _ _ _ _ | exact At.ny1 _ _ _ _ | exact At.ny2 _ _ _ _ _ | exact At.ny3 _ _ _ _ _ _ | exact At.nz1 _ _ _ _ _ | exact At.nz2 _ _ _ _ _ _ | exact At.nz3 _ _ _ _ _ _ _ | exact Has.new1 _ _ _ | exact Has.new2 _ _ _ _ | exact Has.new3 _ _ _ _ _ | exact Has.nx1 _ _ _ | exact Has.nx2 _ _ _ _ | exact Has.nx3 _ _ _ _ _ | exact Has.ny1 _ _ _ _ | exact Has.ny2 _ _ _ _ _ | exact Has.ny3 _ _ _ _ _ _ | exact Has.nz1 _ _ _ _ _ | exact Has.nz2 _ _ _ _ _ _ | exact Has.nz3 _ _ _ _ _ _ _ | refine At.fill1 ?_ _ | refine At.fill2 ?_ _ _ | refine At.fill3 ?_ _ _ _ | refine At.swap ?_ (by first | omega | (simp; omega)) _ _ | refine At.alloc ?_ _ | refine At.drew ?_ | refine At.drewN ?_ _ | refine At.skip ?_ (by first | omega | (simp; omega)) _ _ | refine At.below (by assumption) ?_ | refine Has.alloc ?_ _ | refine Has.drew ?_ | refine Has.drewN ?_ _ | refine Has.set ?_ _ _ _ | refine Has.below (by assumption) ?_)); done)
  have QA : At (((w.alloc (.cells #[.float .f64 a, .float .f64 f, .string k, .int .i64 mid, .float .f64 m] 26)).alloc (.cells #[.int .i64 lon, .int .i64 lat] 28)).alloc (.cells #[.float .f64 0, .float .f64 0] 40)) (w.heap.size + 1) (aL lon lat) := by ((with_reducible repeat' (first | assumption | exact At.new1 _ _ _ | exact At.new2 _ _ _ _ | exact At.new3 _ _ _ _ _ | exact At.new5 _ _ _ _ _ _ _ | exact At.nx1 _ _ _ | exact At.nx2 _ _ _ _ | exact At.nx3 _ _ _ _ _ | exact At.ny1 _ _ _ _ | exact At.ny2 _ _ _ _ _ | exact At.ny3 _ _ _ _ _ _ | exact At.nz1 _ _ _ _ _ | exact At.nz2 _ _ _ _ _ _ | exact At.nz3 _ _ _ _ _ _ _ | exact Has.new1 _ _ _ | exact Has.new2 _ _ _ _ | exact Has.new3 _ _ _ _ _ | exact Has.nx1 _ _ _ | exact Has.nx2 _ _ _ _ | exact Has.nx3 _ _ _ _ _ | exact Has.ny1 _ _ _ _ | exact Has.ny2 _ _ _ _ _ | exact Has.ny3 _ _ _ _ _ _ | exact Has.nz1 _ _ _ _ _ | exact Has.nz2 _ _ _ _ _ _ | exact Has.nz3 _ _ _ _ _ _ _ | refine At.fill1 ?_ _ | refine At.fill2 ?_ _ _ | refine At.fill3 ?_ _ _ _ | refine At.swap ?_ (by first | omega | (simp; omega)) _ _ | refine At.alloc ?_ _ | refine At.drew ?_ | refine At.drewN ?_ _ | refine At.skip ?_ (by first | omega | (simp; omega)) _ _ | refine At.below (by assumption) ?_ | refine Has.alloc ?_ _ | refine Has.drew ?_ | refine Has.drewN ?_ _ | refine Has.set ?_ _ _ _ | refine Has.below (by assumption) ?_)); done)
  have RA : At (((w.alloc (.cells #[.float .f64 a, .float .f64 f, .string k, .int .i64 mid, .float .f64 m] 26)).alloc (.cells #[.int .i64 lon, .int .i64 lat] 28)).alloc (.cells #[.float .f64 0, .float .f64 0] 40)) (w.heap.size + 1 + 1) (fL 0 0) := by ((with_reducible repeat' (first | assumption | exact At.new1 _ _ _ | exact At.new2 _ _ _ _ | exact At.new3 _ _ _ _ _ | exact At.new5 _ _ _ _ _ _ _ | exact At.nx1 _ _ _ | exact At.nx2 _ _ _ _ | exact At.nx3 _ _ _ _ _ | exact At.ny1 _ _ _ _ | exact At.ny2 _ _ _ _ _ | exact At.ny3 _ _ _ _ _ _ | exact At.nz1 _ _ _ _ _ | exact At.nz2 _ _ _ _ _ _ | exact At.nz3 _ _ _ _ _ _ _ | exact Has.new1 _ _ _ | exact Has.new2 _ _ _ _ | exact Has.new3 _ _ _ _ _ | exact Has.nx1 _ _ _ | exact Has.nx2 _ _ _ _ | exact Has.nx3 _ _ _ _ _ | exact Has.ny1 _ _ _ _ | exact Has.ny2 _ _ _ _ _ | exact Has.ny3 _ _ _ _ _ _ | exact Has.nz1 _ _ _ _ _ | exact Has.nz2 _ _ _ _ _ _ | exact Has.nz3 _ _ _ _ _ _ _ | refine At.fill1 ?_ _ | refine At.fill2 ?_ _ _ | refine At.fill3 ?_ _ _ _ | refine At.swap ?_ (by first | omega | (simp; omega)) _ _ | refine At.alloc ?_ _ | refine At.drew ?_ | refine At.drewN ?_ _ | refine At.skip ?_ (by first | omega | (simp; omega)) _ _ | refine At.below (by assumption) ?_ | refine Has.alloc ?_ _ | refine Has.drew ?_ | refine Has.drewN ?_ _ | refine Has.set ?_ _ _ _ | refine Has.below (by assumption) ?_)); done)
  have HC : Gr w (((w.alloc (.cells #[.float .f64 a, .float .f64 f, .string k, .int .i64 mid, .float .f64 m] 26)).alloc (.cells #[.int .i64 lon, .int .i64 lat] 28)).alloc (.cells #[.float .f64 0, .float .f64 0] 40)) := by ((with_reducible repeat' (first | assumption | refine Gr.drew ?_ | refine Gr.drewN ?_ _ | refine Gr.alloc ?_ _ | refine Gr.set ?_ (by first | omega | (simp; omega)) _ _ | exact Gr.refl _)); done)
  generalize ((w.alloc (.cells #[.float .f64 a, .float .f64 f, .string k, .int .i64 mid, .float .f64 m] 26)).alloc (.cells #[.int .i64 lon, .int .i64 lat] 28)).alloc (.cells #[.float .f64 0, .float .f64 0] 40) = w1 at *
  go_region_held (fun w' => w'.cell? ⟨w.heap.size, 0, none⟩ = some (.float .f64 a) ∧ w'.cell? ⟨w.heap.size, 1, none⟩ = some (.float .f64 f) ∧ w'.cell? ⟨w.heap.size, 2, none⟩ = some (.string k) ∧ w'.cell? ⟨w.heap.size, 3, none⟩ = some (.int .i64 mid) ∧ w'.cell? ⟨w.heap.size, 4, none⟩ = some (.float .f64 m) ∧ w'.cell? ⟨w.heap.size + 1, 0, none⟩ = some (.int .i64 lon) ∧ w'.cell? ⟨w.heap.size + 1, 1, none⟩ = some (.int .i64 lat))
    (exact c52 PA QA)
    ((go_at_call 51; refine (normOf_any _ _).mono ?_; rintro x w2 ⟨rfl, rfl⟩))
  obtain ⟨off, ho⟩ : ∃ o, nrm lon - nrm mid = o := ⟨_, rfl⟩
  rw [ho]
  have HO := hid ho
  clear ho hw l0 l1 d0 d1
  replace PA := PA.drew
  replace QA := QA.drew
  replace RA := RA.drew
  replace HC := HC.drew
  generalize w1.drew = w2 at *
  obtain ⟨c0, c1, c2, c3, c4⟩ := PA.c5
  obtain ⟨d0, d1⟩ := QA.c2
  go_wp2_with fail
  refine (signedAngle_any _ _).mono ?_
  rintro x w3 ⟨rfl, rfl⟩
  have ga1 := gm _ _ _ _ w2 (gsm a) (gsm m)
  generalize mF a m w2 = ra at ga1 ⊢
  replace PA := PA.drewN (mD a m)
  replace QA := QA.drewN (mD a m)
  replace RA := RA.drewN (mD a m)
  replace HC := HC.drewN (mD a m)
  generalize w2.drewN (mD a m) = w3 at *
  clear c0 c1 c2 c3 c4 d0 d1
  obtain ⟨c0, c1, c2, c3, c4⟩ := PA.c5
  obtain ⟨d0, d1⟩ := QA.c2
  obtain ⟨t, ht⟩ : ∃ t, sgn off = t := ⟨_, rfl⟩
  rw [ht]
  have HT := hid ht
  clear ht
  go_wp2_with fail
  refine (isoOf_any _ _ _ hf _).mono ?_
  rintro x w5 ⟨ri, rfl, hi, hB3⟩
  have hx : GW (asO a m off) (mF ra (mF (floatOfInt .f64 t) 4445950764994258515 w3) (w3.drewN (mD (floatOfInt .f64 t) 4445950764994258515))) := by unfold asO liO; rw [HT.out]; exact gm _ _ _ _ (w3.drewN (mD (floatOfInt .f64 t) 4445950764994258515)) ga1.1 (gm _ _ _ _ w3 (gsm (floatOfInt .f64 t)) (gsm 4445950764994258515)).1
  generalize mF ra (mF (floatOfInt .f64 t) 4445950764994258515 w3) (w3.drewN (mD (floatOfInt .f64 t) 4445950764994258515)) = rx at hx ⊢
  replace HC : Gr w w5 := Gr.step (by ((with_reducible repeat' (first | assumption | refine Gr.drew ?_ | refine Gr.drewN ?_ _ | refine Gr.alloc ?_ _ | refine Gr.set ?_ (by first | omega | (simp; omega)) _ _ | exact Gr.refl _)); done)) hB3
  replace RA : At w5 (w.heap.size + 1 + 1) (fL 0 0) := At.below hB3 (by ((with_reducible repeat' (first | assumption | exact At.new1 _ _ _ | exact At.new2 _ _ _ _ | exact At.new3 _ _ _ _ _ | exact At.new5 _ _ _ _ _ _ _ | exact At.nx1 _ _ _ | exact At.nx2 _ _ _ _ | exact At.nx3 _ _ _ _ _ | exact At.ny1 _ _ _ _ | exact At.ny2 _ _ _ _ _ | exact At.ny3 _ _ _ _ _ _ | exact At.nz1 _ _ _ _ _ | exact At.nz2 _ _ _ _ _ _ | exact At.nz3 _ _ _ _ _ _ _ | exact Has.new1 _ _ _ | exact Has.new2 _ _ _ _ | exact Has.new3 _ _ _ _ _ | exact Has.nx1 _ _ _ | exact Has.nx2 _ _ _ _ | exact Has.nx3 _ _ _ _ _ | exact Has.ny1 _ _ _ _ | exact Has.ny2 _ _ _ _ _ | exact Has.ny3 _ _ _ _ _ _ | exact Has.nz1 _ _ _ _ _ | exact Has.nz2 _ _ _ _ _ _ | exact Has.nz3 _ _ _ _ _ _ _ | refine At.fill1 ?_ _ | refine At.fill2 ?_ _ _ | refine At.fill3 ?_ _ _ _ | refine At.swap ?_ (by first | omega | (simp; omega)) _ _ | refine At.alloc ?_ _ | refine At.drew ?_ | refine At.drewN ?_ _ | refine At.skip ?_ (by first | omega | (simp; omega)) _ _ | refine At.below (by assumption) ?_ | refine Has.alloc ?_ _ | refine Has.drew ?_ | refine Has.drewN ?_ _ | refine Has.set ?_ _ _ _ | refine Has.below (by assumption) ?_)); done))
  clear hB3 c0 c1 c2 c3 c4 d0 d1
  obtain ⟨z0, z1⟩ := RA.f2
  obtain ⟨y0, y1⟩ := RA.c2
  go_wp2
  exact bodyPost_ret (v := fV rx (mF ra ri w5)) (by simp [results, Tryz.results16, go_sem, y0, y1]) rfl ⟨rx, mF ra ri w5, rfl, by rw [HO.out]; exact hx, gm _ _ _ _ _ ga1.1 hi.1, by ((with_reducible repeat' (first | assumption | refine Gr.drew ?_ | refine Gr.drewN ?_ _ | refine Gr.alloc ?_ _ | refine Gr.set ?_ (by first | omega | (simp; omega)) _ _ | exact Gr.refl _)); done)⟩

set_option maxHeartbeats 8000000 in
theorem flatOf_k1 (a f m : Nat) (k : ByteArray) (mid lon lat : Int) (hf : Le 1021 f) (hk : Kd k false true false) (w : World) : Calls Tryz.prog 16 #[pV a f k mid m, .agg #[.int .i64 lon, .int .i64 lat]] w fun e w' => ∃ x y, e = .returned (fV x y) ∧ GW (asO a m (nrm lon - nrm mid)) x ∧ GW (upS a m f (sinV (nrm lat))) y ∧ Gr w w' := by
  obtain ⟨mF, aF, sF, qF, mD, aD, sD, qD, hm, ha, hss, hq, gm, ga, gs, gq⟩ := ops
  have hng := hnegA
  obtain ⟨t0, t1, t2⟩ := hk
  obtain ⟨l0, l1⟩ := nrm_lt lon
  obtain ⟨d0, d1⟩ := nrm_lt mid
  have hw : IntKind.i64.wrap (nrm lon - nrm mid) = nrm lon - nrm mid := by simp [IntKind.wrap, IntKind.signed, IntKind.bits]; omega
  go_enter Tryz.func16, Tryz.ntmps16
  go_upto_region 1 with fail
  have PA : At (((w.alloc (.cells #[.float .f64 a, .float .f64 f, .string k, .int .i64 mid, .float .f64 m] 26)).alloc (.cells #[.int .i64 lon, .int .i64 lat] 28)).alloc (.cells #[.float .f64 0, .float .f64 0] 40)) w.heap.size (pL a f k mid m) := by ((with_reducible repeat' (first | assumption | exact At.new1 _ _ _ | exact At.new2 _ _ _ _ | exact At.new3 _ _ _ _ _ | exact At.new5 _ _ _ _ _ _ _ | exact At.nx1 _ _ _ | exact At.nx2 _ _ _ _ | exact At.nx3 _ _ _ _ _ | exact At.ny1 _ _ _ _ | exact At.ny2 _ _ _ _ _ | exact At.ny3 _ _ _ _ _ _ | exact At.nz1 _ _ _ _ _ | exact At.nz2 _ _ _ _ _ _ | exact At.nz3 _ _ _ _ _ _ _ | exact Has.new1 _ _ _ | exact Has.new2 _ _ _ _ | exact Has.new3 _ _ _ _ _ | exact Has.nx1 _ _ _ | exact Has.nx2 _ _ _ _ | exact Has.nx3 _ _ _ _ _ | exact Has.ny1 _ _ _ _ | exact Has.ny2 _ _ _ _ _ | exact Has.ny3 _ _ _ _ _ _ | exact Has.nz1 _ _ _ _ _ | exact Has.nz2 _ _ _ _ _ _ | exact Has.nz3 _ _ _ _ _ _ _ | refine At.fill1 ?_ _ | refine At.fill2 ?_ _ _ | refine At.fill3 ?_ _ _ _ | refine At.swap ?_ (by first | omega | (simp; omega)) _ _ | refine At.alloc ?_ _ | refine At.drew ?_ | refine At.drewN ?_ _ | refine At.skip ?_ (by first | omega | (simp; omega)) _ _ | refine At.below (by assumption) ?_ | refine Has.alloc ?_ _ | refine Has.drew ?_ | refine Has.drewN ?_ _ | refine Has.set ?_ _ _ _ | refine Has.below (by assumption) ?_)); done)
  have QA : At (((w.alloc (.cells #[.float .f64 a, .float .f64 f, .string k, .int .i64 mid, .float .f64 m] 26)).alloc (.cells #[.int .i64 lon, .int .i64 lat] 28)).alloc (.cells #[.float .f64 0, .float .f64 0] 40)) (w.heap.size + 1) (aL lon lat) := by ((with_reducible repeat' (first | assumption | exact At.new1 _ _ _ | exact At.new2 _ _ _ _ | exact At.new3 _ _ _ _ _ | exact At.new5 _ _ _ _ _ _ _ | exact At.nx1 _ _ _ | exact At.nx2 _ _ _ _ | exact At.nx3 _ _ _ _ _ | exact At.ny1 _ _ _ _ | exact At.ny2 _ _ _ _ _ | exact At.ny3 _ _ _ _ _ _ | exact At.nz1 _ _ _ _ _ | exact At.nz2 _ _ _ _ _ _ | exact At.nz3 _ _ _ _ _ _ _ | exact Has.new1 _ _ _ | exact Has.new2 _ _ _ _ | exact Has.new3 _ _ _ _ _ | exact Has.nx1 _ _ _ | exact Has.nx2 _ _ _ _ | exact Has.nx3 _ _ _ _ _ | exact Has.ny1 _ _ _ _ | exact Has.ny2 _ _ _ _ _ | exact Has.ny3 _ _ _ _ _ _ | exact Has.nz1 _ _ _ _ _ | exact Has.nz2 _ _ _ _ _ _ | exact Has.nz3 _ _ _ _ _ _ _ | refine At.fill1 ?_ _ | refine At.fill2 ?_ _ _ | refine At.fill3 ?_ _ _ _ | refine At.swap ?_ (by first | omega | (simp; omega)) _ _ | refine At.alloc ?_ _ | refine At.drew ?_ | refine At.drewN ?_ _ | refine At.skip ?_ (by first | omega | (simp; omega)) _ _ | refine At.below (by assumption) ?_ | refine Has.alloc ?_ _ | refine Has.drew ?_ | refine Has.drewN ?_ _ | refine Has.set ?_ _ _ _ | refine Has.below (by assumption) ?_)); done)
  have RA : At (((w.alloc (.cells #[.float .f64 a, .float .f64 f, .string k, .int .i64 mid, .float .f64 m] 26)).alloc (.cells #[.int .i64 lon, .int .i64 lat] 28)).alloc (.cells #[.float .f64 0, .float .f64 0] 40)) (w.heap.size + 1 + 1) (fL 0 0) := by ((with_reducible repeat' (first | assumption | exact At.new1 _ _ _ | exact At.new2 _ _ _ _ | exact At.new3 _ _ _ _ _ | exact At.new5 _ _ _ _ _ _ _ | exact At.nx1 _ _ _ | exact At.nx2 _ _ _ _ | exact At.nx3 _ _ _ _ _ | exact At.ny1 _ _ _ _ | exact At.ny2 _ _ _ _ _ | exact At.ny3 _ _ _ _ _ _ | exact At.nz1 _ _ _ _ _ | exact At.nz2 _ _ _ _ _ _ | exact At.nz3 _ _ _ _ _ _ _ | exact Has.new1 _ _ _ | exact Has.new2 _ _ _ _ | exact Has.new3 _ _ _ _ _ | exact Has.nx1 _ _ _ | exact Has.nx2 _ _ _ _ | exact Has.nx3 _ _ _ _ _ | exact Has.ny1 _ _ _ _ | exact Has.ny2 _ _ _ _ _ | exact Has.ny3 _ _ _ _ _ _ | exact Has.nz1 _ _ _ _ _ | exact Has.nz2 _ _ _ _ _ _ | exact Has.nz3 _ _ _ _ _ _ _ | refine At.fill1 ?_ _ | refine At.fill2 ?_ _ _ | refine At.fill3 ?_ _ _ _ | refine At.swap ?_ (by first | omega | (simp; omega)) _ _ | refine At.alloc ?_ _ | refine At.drew ?_ | refine At.drewN ?_ _ | refine At.skip ?_ (by first | omega | (simp; omega)) _ _ | refine At.below (by assumption) ?_ | refine Has.alloc ?_ _ | refine Has.drew ?_ | refine Has.drewN ?_ _ | refine Has.set ?_ _ _ _ | refine Has.below (by assumption) ?_)); done)
  have HC : Gr w (((w.alloc (.cells #[.float .f64 a, .float .f64 f, .string k, .int .i64 mid, .float .f64 m] 26)).alloc (.cells #[.int .i64 lon, .int .i64 lat] 28)).alloc (.cells #[.float .f64 0, .float .f64 0] 40)) := by ((with_reducible repeat' (first | assumption | refine Gr.drew ?_ | refine Gr.drewN ?_ _ | refine Gr.alloc ?_ _ | refine Gr.set ?_ (by first | omega | (simp; omega)) _ _ | exact Gr.refl _)); done)
  generalize ((w.alloc (.cells #[.float .f64 a, .float .f64 f, .string k, .int .i64 mid, .float .f64 m] 26)).alloc (.cells #[.int .i64 lon, .int .i64 lat] 28)).alloc (.cells #[.float .f64 0, .float .f64 0] 40) = w1 at *
  go_region_held (fun w' => w'.cell? ⟨w.heap.size, 0, none⟩ = some (.float .f64 a) ∧ w'.cell? ⟨w.heap.size, 1, none⟩ = some (.float .f64 f) ∧ w'.cell? ⟨w.heap.size, 2, none⟩ = some (.string k) ∧ w'.cell? ⟨w.heap.size, 3, none⟩ = some (.int .i64 mid) ∧ w'.cell? ⟨w.heap.size, 4, none⟩ = some (.float .f64 m) ∧ w'.cell? ⟨w.heap.size + 1, 0, none⟩ = some (.int .i64 lon) ∧ w'.cell? ⟨w.heap.size + 1, 1, none⟩ = some (.int .i64 lat))
    (exact c52 PA QA)
    ((go_at_call 51; refine (normOf_any _ _).mono ?_; rintro x w2 ⟨rfl, rfl⟩))
  obtain ⟨off, ho⟩ : ∃ o, nrm lon - nrm mid = o := ⟨_, rfl⟩
  rw [ho]
  have HO := hid ho
  clear ho hw l0 l1 d0 d1
  replace PA := PA.drew
  replace QA := QA.drew
  replace RA := RA.drew
  replace HC := HC.drew
  generalize w1.drew = w2 at *
  obtain ⟨c0, c1, c2, c3, c4⟩ := PA.c5
  obtain ⟨d0, d1⟩ := QA.c2
  go_wp2_with fail
  refine (signedAngle_any _ _).mono ?_
  rintro x w3 ⟨rfl, rfl⟩
  have ga1 := gm _ _ _ _ w2 (gsm a) (gsm m)
  generalize mF a m w2 = ra at ga1 ⊢
  replace PA := PA.drewN (mD a m)
  replace QA := QA.drewN (mD a m)
  replace RA := RA.drewN (mD a m)
  replace HC := HC.drewN (mD a m)
  generalize w2.drewN (mD a m) = w3 at *
  clear c0 c1 c2 c3 c4 d0 d1
  obtain ⟨c0, c1, c2, c3, c4⟩ := PA.c5
  obtain ⟨d0, d1⟩ := QA.c2
  obtain ⟨t, ht⟩ : ∃ t, sgn off = t := ⟨_, rfl⟩
  rw [ht]
  have HT := hid ht
  clear ht
  go_wp2_with fail
  refine (upOf_any _ _ _ _ _ _ hf _).mono ?_
  rintro x w5 ⟨ry, rfl, hy, hB3⟩
  have hx : GW (asO a m off) (mF ra (mF (floatOfInt .f64 t) 4445950764994258515 w3) (w3.drewN (mD (floatOfInt .f64 t) 4445950764994258515))) := by unfold asO liO; rw [HT.out]; exact gm _ _ _ _ (w3.drewN (mD (floatOfInt .f64 t) 4445950764994258515)) ga1.1 (gm _ _ _ _ w3 (gsm (floatOfInt .f64 t)) (gsm 4445950764994258515)).1
  generalize mF ra (mF (floatOfInt .f64 t) 4445950764994258515 w3) (w3.drewN (mD (floatOfInt .f64 t) 4445950764994258515)) = rx at hx ⊢
  replace HC : Gr w w5 := Gr.step (by ((with_reducible repeat' (first | assumption | refine Gr.drew ?_ | refine Gr.drewN ?_ _ | refine Gr.alloc ?_ _ | refine Gr.set ?_ (by first | omega | (simp; omega)) _ _ | exact Gr.refl _)); done)) hB3
  replace RA : At w5 (w.heap.size + 1 + 1) (fL 0 0) := At.below hB3 (by ((with_reducible repeat' (first | assumption | exact At.new1 _ _ _ | exact At.new2 _ _ _ _ | exact At.new3 _ _ _ _ _ | exact At.new5 _ _ _ _ _ _ _ | exact At.nx1 _ _ _ | exact At.nx2 _ _ _ _ | exact At.nx3 _ _ _ _ _ | exact At.ny1 _ _ _ _ | exact At.ny2 _ _ _ _ _ | exact At.ny3 _ _ _ _ _ _ | exact At.nz1 _ _ _ _ _ | exact At.nz2 _ _ _ _ _ _ | exact At.nz3 _ _ _ _ _ _ _ | exact Has.new1 _ _ _ | exact Has.new2 _ _ _ _ | exact Has.new3 _ _ _ _ _ | exact Has.nx1 _ _ _ | exact Has.nx2 _ _ _ _ | exact Has.nx3 _ _ _ _ _ | exact Has.ny1 _ _ _ _ | exact Has.ny2 _ _ _ _ _ | exact Has.ny3 _ _ _ _ _ _ | exact Has.nz1 _ _ _ _ _ | exact Has.nz2 _ _ _ _ _ _ | exact Has.nz3 _ _ _ _ _ _ _ | refine At.fill1 ?_ _ | refine At.fill2 ?_ _ _ | refine At.fill3 ?_ _ _ _ | refine At.swap ?_ (by first | omega | (simp; omega)) _ _ | refine At.alloc ?_ _ | refine At.drew ?_ | refine At.drewN ?_ _ | refine At.skip ?_ (by first | omega | (simp; omega)) _ _ | refine At.below (by assumption) ?_ | refine Has.alloc ?_ _ | refine Has.drew ?_ | refine Has.drewN ?_ _ | refine Has.set ?_ _ _ _ | refine Has.below (by assumption) ?_)); done))
  clear hB3 c0 c1 c2 c3 c4 d0 d1
  obtain ⟨z0, z1⟩ := RA.f2
  obtain ⟨y0, y1⟩ := RA.c2
  go_wp2
  exact bodyPost_ret (v := fV rx ry) (by simp [results, Tryz.results16, go_sem, y0, y1]) rfl ⟨rx, ry, rfl, by rw [HO.out]; exact hx, hy, by ((with_reducible repeat' (first | assumption | refine Gr.drew ?_ | refine Gr.drewN ?_ _ | refine Gr.alloc ?_ _ | refine Gr.set ?_ (by first | omega | (simp; omega)) _ _ | exact Gr.refl _)); done)⟩

set_option maxHeartbeats 8000000 in
theorem flatOf_k2 (a f m : Nat) (k : ByteArray) (mid lon lat : Int) (hf : Le 1021 f) (hk : Kd k false false true) (w : World) : Calls Tryz.prog 16 #[pV a f k mid m, .agg #[.int .i64 lon, .int .i64 lat]] w fun e w' => ∃ x y, e = .returned (fV x y) ∧ GW (oM (dnO a m f lat) (some (sinV (nrm (nrm lon - nrm mid))))) x ∧ GW (oN (oM (dnO a m f lat) (some (cosV (nrm (nrm lon - nrm mid)))))) y ∧ Gr w w' := by
  obtain ⟨mF, aF, sF, qF, mD, aD, sD, qD, hm, ha, hss, hq, gm, ga, gs, gq⟩ := ops
  have hng := hnegA
  obtain ⟨t0, t1, t2⟩ := hk
  obtain ⟨l0, l1⟩ := nrm_lt lon
  obtain ⟨d0, d1⟩ := nrm_lt mid
  have hw : IntKind.i64.wrap (nrm lon - nrm mid) = nrm lon - nrm mid := by simp [IntKind.wrap, IntKind.signed, IntKind.bits]; omega
  go_enter Tryz.func16, Tryz.ntmps16
  go_upto_region 1 with fail
  have PA : At (((w.alloc (.cells #[.float .f64 a, .float .f64 f, .string k, .int .i64 mid, .float .f64 m] 26)).alloc (.cells #[.int .i64 lon, .int .i64 lat] 28)).alloc (.cells #[.float .f64 0, .float .f64 0] 40)) w.heap.size (pL a f k mid m) := by ((with_reducible repeat' (first | assumption | exact At.new1 _ _ _ | exact At.new2 _ _ _ _ | exact At.new3 _ _ _ _ _ | exact At.new5 _ _ _ _ _ _ _ | exact At.nx1 _ _ _ | exact At.nx2 _ _ _ _ | exact At.nx3 _ _ _ _ _ | exact At.ny1 _ _ _ _ | exact At.ny2 _ _ _ _ _ | exact At.ny3 _ _ _ _ _ _ | exact At.nz1 _ _ _ _ _ | exact At.nz2 _ _ _ _ _ _ | exact At.nz3 _ _ _ _ _ _ _ | exact Has.new1 _ _ _ | exact Has.new2 _ _ _ _ | exact Has.new3 _ _ _ _ _ | exact Has.nx1 _ _ _ | exact Has.nx2 _ _ _ _ | exact Has.nx3 _ _ _ _ _ | exact Has.ny1 _ _ _ _ | exact Has.ny2 _ _ _ _ _ | exact Has.ny3 _ _ _ _ _ _ | exact Has.nz1 _ _ _ _ _ | exact Has.nz2 _ _ _ _ _ _ | exact Has.nz3 _ _ _ _ _ _ _ | refine At.fill1 ?_ _ | refine At.fill2 ?_ _ _ | refine At.fill3 ?_ _ _ _ | refine At.swap ?_ (by first | omega | (simp; omega)) _ _ | refine At.alloc ?_ _ | refine At.drew ?_ | refine At.drewN ?_ _ | refine At.skip ?_ (by first | omega | (simp; omega)) _ _ | refine At.below (by assumption) ?_ | refine Has.alloc ?_ _ | refine Has.drew ?_ | refine Has.drewN ?_ _ | refine Has.set ?_ _ _ _ | refine Has.below (by assumption) ?_)); done)
  have QA : At (((w.alloc (.cells #[.float .f64 a, .float .f64 f, .string k, .int .i64 mid, .float .f64 m] 26)).alloc (.cells #[.int .i64 lon, .int .i64 lat] 28)).alloc (.cells #[.float .f64 0, .float .f64 0] 40)) (w.heap.size + 1) (aL lon lat) := by ((with_reducible repeat' (first | assumption | exact At.new1 _ _ _ | exact At.new2 _ _ _ _ | exact At.new3 _ _ _ _ _ | exact At.new5 _ _ _ _ _ _ _ | exact At.nx1 _ _ _ | exact At.nx2 _ _ _ _ | exact At.nx3 _ _ _ _ _ | exact At.ny1 _ _ _ _ | exact At.ny2 _ _ _ _ _ | exact At.ny3 _ _ _ _ _ _ | exact At.nz1 _ _ _ _ _ | exact At.nz2 _ _ _ _ _ _ | exact At.nz3 _ _ _ _ _ _ _ | exact Has.new1 _ _ _ | exact Has.new2 _ _ _ _ | exact Has.new3 _ _ _ _ _ | exact Has.nx1 _ _ _ | exact Has.nx2 _ _ _ _ | exact Has.nx3 _ _ _ _ _ | exact Has.ny1 _ _ _ _ | exact Has.ny2 _ _ _ _ _ | exact Has.ny3 _ _ _ _ _ _ | exact Has.nz1 _ _ _ _ _ | exact Has.nz2 _ _ _ _ _ _ | exact Has.nz3 _ _ _ _ _ _ _ | refine At.fill1 ?_ _ | refine At.fill2 ?_ _ _ | refine At.fill3 ?_ _ _ _ | refine At.swap ?_ (by first | omega | (simp; omega)) _ _ | refine At.alloc ?_ _ | refine At.drew ?_ | refine At.drewN ?_ _ | refine At.skip ?_ (by first | omega | (simp; omega)) _ _ | refine At.below (by assumption) ?_ | refine Has.alloc ?_ _ | refine Has.drew ?_ | refine Has.drewN ?_ _ | refine Has.set ?_ _ _ _ | refine Has.below (by assumption) ?_)); done)
  have RA : At (((w.alloc (.cells #[.float .f64 a, .float .f64 f, .string k, .int .i64 mid, .float .f64 m] 26)).alloc (.cells #[.int .i64 lon, .int .i64 lat] 28)).alloc (.cells #[.float .f64 0, .float .f64 0] 40)) (w.heap.size + 1 + 1) (fL 0 0) := by ((with_reducible repeat' (first | assumption | exact At.new1 _ _ _ | exact At.new2 _ _ _ _ | exact At.new3 _ _ _ _ _ | exact At.new5 _ _ _ _ _ _ _ | exact At.nx1 _ _ _ | exact At.nx2 _ _ _ _ | exact At.nx3 _ _ _ _ _ | exact At.ny1 _ _ _ _ | exact At.ny2 _ _ _ _ _ | exact At.ny3 _ _ _ _ _ _ | exact At.nz1 _ _ _ _ _ | exact At.nz2 _ _ _ _ _ _ | exact At.nz3 _ _ _ _ _ _ _ | exact Has.new1 _ _ _ | exact Has.new2 _ _ _ _ | exact Has.new3 _ _ _ _ _ | exact Has.nx1 _ _ _ | exact Has.nx2 _ _ _ _ | exact Has.nx3 _ _ _ _ _ | exact Has.ny1 _ _ _ _ | exact Has.ny2 _ _ _ _ _ | exact Has.ny3 _ _ _ _ _ _ | exact Has.nz1 _ _ _ _ _ | exact Has.nz2 _ _ _ _ _ _ | exact Has.nz3 _ _ _ _ _ _ _ | refine At.fill1 ?_ _ | refine At.fill2 ?_ _ _ | refine At.fill3 ?_ _ _ _ | refine At.swap ?_ (by first | omega | (simp; omega)) _ _ | refine At.alloc ?_ _ | refine At.drew ?_ | refine At.drewN ?_ _ | refine At.skip ?_ (by first | omega | (simp; omega)) _ _ | refine At.below (by assumption) ?_ | refine Has.alloc ?_ _ | refine Has.drew ?_ | refine Has.drewN ?_ _ | refine Has.set ?_ _ _ _ | refine Has.below (by assumption) ?_)); done)
  have HC : Gr w (((w.alloc (.cells #[.float .f64 a, .float .f64 f, .string k, .int .i64 mid, .float .f64 m] 26)).alloc (.cells #[.int .i64 lon, .int .i64 lat] 28)).alloc (.cells #[.float .f64 0, .float .f64 0] 40)) := by ((with_reducible repeat' (first | assumption | refine Gr.drew ?_ | refine Gr.drewN ?_ _ | refine Gr.alloc ?_ _ | refine Gr.set ?_ (by first | omega | (simp; omega)) _ _ | exact Gr.refl _)); done)
  generalize ((w.alloc (.cells #[.float .f64 a, .float .f64 f, .string k, .int .i64 mid, .float .f64 m] 26)).alloc (.cells #[.int .i64 lon, .int .i64 lat] 28)).alloc (.cells #[.float .f64 0, .float .f64 0] 40) = w1 at *
  go_region_held (fun w' => w'.cell? ⟨w.heap.size, 0, none⟩ = some (.float .f64 a) ∧ w'.cell? ⟨w.heap.size, 1, none⟩ = some (.float .f64 f) ∧ w'.cell? ⟨w.heap.size, 2, none⟩ = some (.string k) ∧ w'.cell? ⟨w.heap.size, 3, none⟩ = some (.int .i64 mid) ∧ w'.cell? ⟨w.heap.size, 4, none⟩ = some (.float .f64 m) ∧ w'.cell? ⟨w.heap.size + 1, 0, none⟩ = some (.int .i64 lon) ∧ w'.cell? ⟨w.heap.size + 1, 1, none⟩ = some (.int .i64 lat))
    (exact c52 PA QA)
    ((go_at_call 51; refine (normOf_any _ _).mono ?_; rintro x w2 ⟨rfl, rfl⟩))
  obtain ⟨off, ho⟩ : ∃ o, nrm lon - nrm mid = o := ⟨_, rfl⟩
  rw [ho]
  have HO := hid ho
  clear ho hw l0 l1 d0 d1
  replace PA := PA.drew
  replace QA := QA.drew
  replace RA := RA.drew
  replace HC := HC.drew
  generalize w1.drew = w2 at *
  obtain ⟨c0, c1, c2, c3, c4⟩ := PA.c5
  obtain ⟨d0, d1⟩ := QA.c2
  go_wp2_with fail
  refine (downOf_any _ _ _ _ _ _ hf _).mono ?_
  rintro x w3 ⟨rd, rfl, hd, hB3⟩
  generalize mF a m w2 = ra
  replace HC : Gr w w3 := Gr.step (by ((with_reducible repeat' (first | assumption | refine Gr.drew ?_ | refine Gr.drewN ?_ _ | refine Gr.alloc ?_ _ | refine Gr.set ?_ (by first | omega | (simp; omega)) _ _ | exact Gr.refl _)); done)) hB3
  replace RA : At w3 (w.heap.size + 1 + 1) (fL 0 0) := At.below hB3 (by ((with_reducible repeat' (first | assumption | exact At.new1 _ _ _ | exact At.new2 _ _ _ _ | exact At.new3 _ _ _ _ _ | exact At.new5 _ _ _ _ _ _ _ | exact At.nx1 _ _ _ | exact At.nx2 _ _ _ _ | exact At.nx3 _ _ _ _ _ | exact At.ny1 _ _ _ _ | exact At.ny2 _ _ _ _ _ | exact At.ny3 _ _ _ _ _ _ | exact At.nz1 _ _ _ _ _ | exact At.nz2 _ _ _ _ _ _ | exact At.nz3 _ _ _ _ _ _ _ | exact Has.new1 _ _ _ | exact Has.new2 _ _ _ _ | exact Has.new3 _ _ _ _ _ | exact Has.nx1 _ _ _ | exact Has.nx2 _ _ _ _ | exact Has.nx3 _ _ _ _ _ | exact Has.ny1 _ _ _ _ | exact Has.ny2 _ _ _ _ _ | exact Has.ny3 _ _ _ _ _ _ | exact Has.nz1 _ _ _ _ _ | exact Has.nz2 _ _ _ _ _ _ | exact Has.nz3 _ _ _ _ _ _ _ | refine At.fill1 ?_ _ | refine At.fill2 ?_ _ _ | refine At.fill3 ?_ _ _ _ | refine At.swap ?_ (by first | omega | (simp; omega)) _ _ | refine At.alloc ?_ _ | refine At.drew ?_ | refine At.drewN ?_ _ | refine At.skip ?_ (by first | omega | (simp; omega)) _ _ | refine At.below (by assumption) ?_ | refine Has.alloc ?_ _ | refine Has.drew ?_ | refine Has.drewN ?_ _ | refine Has.set ?_ _ _ _ | refine Has.below (by assumption) ?_)); done))
  clear hB3 PA QA c0 c1 c2 c3 c4 d0 d1
  go_wp2_with fail
  refine (sinCos_any _ _).mono ?_
  rintro x w4 ⟨rfl, rfl⟩
  obtain ⟨s, hs⟩ : ∃ s, sinV (nrm off) = s := ⟨_, rfl⟩
  rw [hs]
  have HS := hid hs
  obtain ⟨c, hc⟩ : ∃ s, cosV (nrm off) = s := ⟨_, rfl⟩
  rw [hc]
  have HN := hid hc
  clear hs hc
  obtain ⟨z0, z1⟩ := RA.f2
  obtain ⟨y0, y1⟩ := RA.c2
  go_wp2
  have hy := got_neg (gm _ _ _ _ w4 hd.1 (gsm c))
  generalize Op.negFloat .f64 (mF rd c w4) = ry at hy ⊢
  have hx := gm _ _ _ _ (w4.drewN (mD rd c)) hd.1 (gsm s)
  generalize mF rd s (w4.drewN (mD rd c)) = rx at hx ⊢
  exact bodyPost_ret (v := fV rx ry) (by simp [results, Tryz.results16, go_sem, y0, y1]) rfl ⟨rx, ry, rfl, by rw [HO.out, HS.out]; exact hx, by rw [HO.out, HN.out]; exact hy, by ((with_reducible repeat' (first | assumption | refine Gr.drew ?_ | refine Gr.drewN ?_ _ | refine Gr.alloc ?_ _ | refine Gr.set ?_ (by first | omega | (simp; omega)) _ _ | exact Gr.refl _)); done)⟩

theorem flatOf_ok (a f m : Nat) (k : ByteArray) (mid lon lat : Int) (hf : Le 1021 f) (hk : Kd k true false false ∧ kd k = 0 ∨ Kd k false true false ∧ kd k = 1 ∨ Kd k false false true ∧ kd k = 2) (w : World) : Calls Tryz.prog 16 #[pV a f k mid m, .agg #[.int .i64 lon, .int .i64 lat]] w fun e w' => ∃ x y, e = .returned (fV x y) ∧ GW (rX a f m k lat (nrm lon - nrm mid)) x ∧ GW (rY a f m k lat (nrm lon - nrm mid)) y ∧ Gr w w' := by
  unfold rX rY
  rcases hk with ⟨hk, e⟩ | ⟨hk, e⟩ | ⟨hk, e⟩
  · rw [if_neg (by omega), if_pos e]; exact flatOf_k0 a f m k mid lon lat hf hk w
  · rw [if_neg (by omega), if_neg (by omega), if_pos e]; exact flatOf_k1 a f m k mid lon lat hf hk w
  · rw [if_pos e, if_neg (by omega), if_neg (by omega)]; exact flatOf_k2 a f m k mid lon lat hf hk w
/-- What both give is the same but for a nothing's sign. -/
theorem uzO_sim {o : Option Nat} (h : ∀ r, o = some r → r < 18446744073709551616) : Sim (uzO o) o := by
  cases o with
  | none => exact .inl ⟨rfl, rfl⟩
  | some r =>
    refine .inr ⟨uz r, r, rfl, rfl, ?_⟩
    by_cases hz : isZ r = true
    · have hu : uz r = 0 := by
        unfold uz
        have h' : (Ieee.double.order r 0 == some Ordering.eq) = true := hz
        rw [if_pos (by simpa using h')]
      exact .inr ⟨.inl hu, zr_of (h r rfl) hz⟩
    · refine .inl ?_
      unfold uz
      rw [if_neg]
      intro he
      apply hz
      show (Ieee.double.order r 0 == some Ordering.eq) = true
      rw [he]; rfl
theorem oD_lt {o p : Option Nat} {r : Nat} (h : oD o p = some r) : r < 18446744073709551616 := by
  unfold oD at h
  cases o with
  | none => cases h
  | some a =>
    cases p with
    | none => cases h
    | some b => exact div_lt h
theorem oN_sim {o p : Option Nat} (h : Sim o p) : Sim (oN o) (oN p) := by
  rcases h with ⟨rfl, rfl⟩ | ⟨r, q, rfl, rfl, h⟩
  · exact .inl ⟨rfl, rfl⟩
  · refine .inr ⟨_, _, rfl, rfl, ?_⟩
    rcases h with rfl | ⟨rfl | rfl, rfl | rfl⟩
    · exact .inl rfl
    all_goals exact .inr ⟨by decide +kernel, by decide +kernel⟩
theorem x_sim (a f m : Nat) (k : ByteArray) (lat off : Int) : Sim (tX a f m k lat off) (rX a f m k lat off) := by
  unfold tX rX
  split
  · exact oM_sim (Sim.refl _) (sim_z (uz_sin off))
  · exact Sim.refl _
theorem y_sim (a f m : Nat) (k : ByteArray) (lat off : Int) : Sim (tY a f m k lat off) (rY a f m k lat off) := by
  unfold tY rY
  split
  · exact oM_sim (Sim.refl _) (uzO_sim fun r h => oD_lt h)
  · split
    · exact upS_sim (uz_sin lat)
    · exact oN_sim (oM_sim (Sim.refl _) (sim_z (uz_cos off)))
end Go.Proofs.YtkebgnemccaimaaGreatDoor
