/-
  mercatorref2: TurnednessOf.
-/
import Derived.Test.YtinopkmcddjgdaaGreatDoorQWvK
import Derived.Test.YtinopkmcddjgdaaGreatDoorQFfQ
import Derived.Deep.QuietTactic
namespace Go.Proofs.YtinopkmcddjgdaaGreatDoor
open Go.RowKit FB
attribute [local go_sem] run_store_float

set_option maxHeartbeats 8000000 in
theorem turnedness_ok (a f m : Nat) (mid lon lat : Int) (hf : Le 1021 f) (hp : tcode a f m lat (nrm lon - nrm mid) = 0) (w : World) : Calls Tryz.prog 12 #[sV a f mid m, .agg #[.int .i64 lon, .int .i64 lat]] w fun e w' => ∃ t v, e = .returned (.tuple #[wV t (nrm lon - nrm mid) (uI f lat (nrm lon - nrm mid)) v, .int .i64 0]) ∧ GW (tRf f lat) t ∧ GW (vRf f lat (nrm lon - nrm mid)) v ∧ Gr w w' := by
  obtain ⟨mF, aF, sF, qF, mD, aD, sD, qD, hm, ha, hss, hq, gm, ga, gs, gq⟩ := ops
  have HS := hid (fun w => stripError_any a f m mid w)
  rw [(tcode_ok hp).1] at HS
  have HO := hid (tcode_ok hp).2
  clear hp
  obtain ⟨l0, l1⟩ := nrm_lt lon
  obtain ⟨d0, d1⟩ := nrm_lt mid
  have hw : IntKind.i64.wrap (nrm lon - nrm mid) = nrm lon - nrm mid := by simp [IntKind.wrap, IntKind.signed, IntKind.bits]; omega
  go_enter Tryz.func12, Tryz.ntmps12
  go_wp2_with fail
  refine (HS.out _).mono ?_
  rintro x w1 ⟨rfl, hB⟩
  have PA : At w1 w.heap.size (sL a f mid m) := At.below hB (((At.new4 w _ _ _ _ _).alloc _).alloc _)
  have QA : At w1 (w.heap.size + 1) (aL lon lat) := At.below hB (by ((with_reducible repeat' (first | assumption | exact At.new1 _ _ _ | exact At.new2 _ _ _ _ | exact At.new3 _ _ _ _ _ | exact At.new5 _ _ _ _ _ _ _ | exact At.nx1 _ _ _ | exact At.nx2 _ _ _ _ | exact At.nx3 _ _ _ _ _ | exact At.ny1 _ _ _ _ | exact At.ny2 _ _ _ _ _ | exact At.ny3 _ _ _ _ _ _ | exact At.nz1 _ _ _ _ _ | exact At.nz2 _ _ _ _ _ _ | exact At.nz3 _ _ _ _ _ _ _ | exact Has.new1 _ _ _ | exact Has.new2 _ _ _ _ | exact Has.new3 _ _ _ _ _ | exact Has.nx1 _ _ _ | exact Has.nx2 _ _ _ _ | exact Has.nx3 _ _ _ _ _ | exact Has.ny1 _ _ _ _ | exact Has.ny2 _ _ _ _ _ | exact Has.ny3 _ _ _ _ _ _ | exact Has.nz1 _ _ _ _ _ | exact Has.nz2 _ _ _ _ _ _ | exact Has.nz3 _ _ _ _ _ _ _ | refine At.fill1 ?_ _ | refine At.fill2 ?_ _ _ | refine At.fill3 ?_ _ _ _ | refine At.swap ?_ (by first | omega | (simp; omega)) _ _ | refine At.alloc ?_ _ | refine At.drew ?_ | refine At.drewN ?_ _ | refine At.skip ?_ (by first | omega | (simp; omega)) _ _ | refine At.below (by assumption) ?_ | refine Has.alloc ?_ _ | refine Has.drew ?_ | refine Has.drewN ?_ _ | refine Has.set ?_ _ _ _ | refine Has.below (by assumption) ?_)); done))
  have RA : At w1 (w.heap.size + 1 + 1) (wL 0 0 0 0) := At.below hB (At.newRow ((w.alloc (.cells #[.float .f64 a, .float .f64 f, .int .i64 mid, .float .f64 m] 26)).alloc (.cells #[.int .i64 lon, .int .i64 lat] 28)) (wL 0 0 0 0) 46 |> fun h => by simpa using h)
  have HC : Gr w w1 := Gr.step (by ((with_reducible repeat' (first | assumption | refine Gr.drew ?_ | refine Gr.drewN ?_ _ | refine Gr.alloc ?_ _ | refine Gr.set ?_ (by first | omega | (simp; omega)) _ _ | exact Gr.refl _)); done)) hB
  clear hB HS
  go_upto_region 4 with fail
  go_region_held (fun w' => w'.cell? ⟨w.heap.size, 0, none⟩ = some (.float .f64 a) ∧ w'.cell? ⟨w.heap.size, 1, none⟩ = some (.float .f64 f) ∧ w'.cell? ⟨w.heap.size, 2, none⟩ = some (.int .i64 mid) ∧ w'.cell? ⟨w.heap.size, 3, none⟩ = some (.float .f64 m) ∧ w'.cell? ⟨w.heap.size + 1, 0, none⟩ = some (.int .i64 lon) ∧ w'.cell? ⟨w.heap.size + 1, 1, none⟩ = some (.int .i64 lat))
    ((refine c42 (a := .float .f64 a) (b := .float .f64 f) (c := .int .i64 mid) (d := .float .f64 m) (x := .int .i64 lon) (y := .int .i64 lat) ?_ ?_; all_goals ((with_reducible repeat' (first | assumption | exact At.new1 _ _ _ | exact At.new2 _ _ _ _ | exact At.new3 _ _ _ _ _ | exact At.new5 _ _ _ _ _ _ _ | exact At.nx1 _ _ _ | exact At.nx2 _ _ _ _ | exact At.nx3 _ _ _ _ _ | exact At.ny1 _ _ _ _ | exact At.ny2 _ _ _ _ _ | exact At.ny3 _ _ _ _ _ _ | exact At.nz1 _ _ _ _ _ | exact At.nz2 _ _ _ _ _ _ | exact At.nz3 _ _ _ _ _ _ _ | exact Has.new1 _ _ _ | exact Has.new2 _ _ _ _ | exact Has.new3 _ _ _ _ _ | exact Has.nx1 _ _ _ | exact Has.nx2 _ _ _ _ | exact Has.nx3 _ _ _ _ _ | exact Has.ny1 _ _ _ _ | exact Has.ny2 _ _ _ _ _ | exact Has.ny3 _ _ _ _ _ _ | exact Has.nz1 _ _ _ _ _ | exact Has.nz2 _ _ _ _ _ _ | exact Has.nz3 _ _ _ _ _ _ _ | refine At.fill1 ?_ _ | refine At.fill2 ?_ _ _ | refine At.fill3 ?_ _ _ _ | refine At.swap ?_ (by first | omega | (simp; omega)) _ _ | refine At.alloc ?_ _ | refine At.drew ?_ | refine At.drewN ?_ _ | refine At.skip ?_ (by first | omega | (simp; omega)) _ _ | refine At.below (by assumption) ?_ | refine Has.alloc ?_ _ | refine Has.drew ?_ | refine Has.drewN ?_ _ | refine Has.set ?_ _ _ _ | refine Has.below (by assumption) ?_)); done)))
    ((go_at_call 35; refine (normOf_any _ _).mono ?_; rintro x w2 ⟨rfl, rfl⟩))
  obtain ⟨d, hd⟩ : ∃ d, nrm lon - nrm mid = d := ⟨_, rfl⟩
  rw [hd]
  rw [hd] at HO
  have HD := hid hd
  clear hw l0 l1 d0 d1 hd
  replace HC := HC.drew
  replace PA := PA.drew
  replace QA := QA.drew
  replace RA := RA.drew
  generalize hwd : World.drew _ = w3 at HC PA QA RA ⊢
  clear hwd
  obtain ⟨e, he⟩ : ∃ e, sgn d = e := ⟨_, rfl⟩
  have HN := HO.out
  unfold offS at HN
  rw [he] at HN
  have h1 : ¬ lat < -89000000000 := fun h => HN (.inl h)
  have h2 : ¬ 89000000000 < lat := fun h => HN (.inr (.inl h))
  have h3 : ¬ e < -45000000000 := fun h => HN (.inr (.inr (.inl h)))
  have h4 : ¬ 45000000000 < e := fun h => HN (.inr (.inr (.inr h)))
  clear HN HO
  obtain ⟨p0, p1, p2, p3⟩ := PA.c4
  obtain ⟨q0, q1⟩ := QA.c2
  go_wp2_with fail
  refine (signedAngle_any _ _).mono ?_
  rintro x w4 ⟨rfl, rfl⟩
  rw [he]
  clear he
  go_wp2_with fail
  refine (isoOf_any _ _ _ hf _).mono ?_
  rintro x w5 ⟨ri, rfl, hi, hB⟩
  replace HC : Gr w w5 := Gr.step HC hB
  replace RA := At.below hB RA
  clear hB PA QA p0 p1 p2 p3 q0 q1 h1 h2 h3 h4
  go_wp2_with fail
  refine (expRw _ _ hi _).mono ?_
  rintro x w6 ⟨p, rfl, hp, hB⟩
  replace HC : Gr w w6 := Gr.step HC hB
  replace RA := At.below hB RA
  clear hB
  go_upto_region 10 with fail
  generalize hx1 : qF 4607182418800017408 p _ = x1
  have gx1 : GW (oD (some oneW) (oXw (isO f lat))) x1 := by rw [← hx1]; exact gq _ _ _ _ _ (gsm _) hp
  clear hx1
  generalize hx2 : sF p x1 _ = x2
  have gx2 : GW (oS (oXw (isO f lat)) (oD (some oneW) (oXw (isO f lat)))) x2 := by rw [← hx2]; exact gs _ _ _ _ _ hp gx1.1
  clear hx2
  generalize hx3 : qF x2 4611686018427387904 _ = t
  have ht : GW (tRf f lat) t := by rw [← hx3]; exact gq _ _ _ _ _ gx2.1 (gsm _)
  clear hx3
  generalize hwd : World.drewN w6 _ = w7
  replace HC : Gr w w7 := by rw [← hwd]; exact HC.drewN _
  replace RA : At w7 (w.heap.size + 1 + 1) (wL 0 0 0 0) := by rw [← hwd]; exact RA.drewN _
  clear hwd gx1 gx2 hp hi
  go_wp2_with fail
  refine (sinCos_any _ _).mono ?_
  rintro x w8 ⟨rfl, rfl⟩
  obtain ⟨s, hs⟩ : ∃ s, sinV (nrm d) = s := ⟨_, rfl⟩
  obtain ⟨c, hc⟩ : ∃ c, cosV (nrm d) = c := ⟨_, rfl⟩
  have hcl : c < 18446744073709551616 := by
    rw [← hc]
    obtain ⟨k0, k1⟩ := nrm_lt d
    exact (sinV_le (nrm d) k0 k1).2.1
  have HU := hid (uI_got (f := f) (lat := lat) (d := d) (t := t) (c := c) ht.1 (by rw [hc]; exact .inl rfl))
  rw [hs, hc]
  have HSn := hid hs
  have HCn := hid hc
  clear hs hc
  go_wp2_with fail
  refine (plusO _ _ _ _ _ _ (gm _ _ _ _ _ ht.1 ht.1).1 (gsm c) (gsm c) _).mono ?_
  rintro x w9 ⟨q1, rfl, hq1, hB⟩
  replace HC : Gr w w9 := Gr.step (HC.drewN _) hB
  replace RA := At.below hB (RA.drewN _)
  clear hB
  go_wp2_with fail
  refine (sqrtO _ _ hq1.1 _).mono ?_
  rintro x w10 ⟨r, k, rfl, hr, rfl⟩
  replace hr : GW (hyO (tRf f lat) (some c)) r := hr
  replace HC := HC.drewN k
  replace RA := RA.drewN k
  generalize w9.drewN k = w10 at HC RA ⊢
  go_wp2_with fail
  refine (angR_any _ _ ht.2 hcl _).mono ?_
  rintro x w11 ⟨rfl, hB⟩
  replace HC : Gr w w11 := Gr.step HC hB
  replace RA := At.below hB RA
  clear hB
  go_wp2_with fail
  refine (signedAngle_any _ _).mono ?_
  rintro x w12 ⟨rfl, rfl⟩
  rw [HU.out]
  go_wp2_with fail
  refine (sinhBack_any _ _ (gq _ _ _ _ _ (gsm s) hr.1) _).mono ?_
  rintro x w13 ⟨v, rfl, hv, hB⟩
  replace HC : Gr w w13 := Gr.step (by ((with_reducible repeat' (first | assumption | refine Gr.drew ?_ | refine Gr.drewN ?_ _ | refine Gr.alloc ?_ _ | refine Gr.set ?_ (by first | omega | (simp; omega)) _ _ | exact Gr.refl _)); done)) hB
  replace RA : At w13 (w.heap.size + 1 + 1) (wL 0 0 0 0) := At.below hB (by ((with_reducible repeat' (first | assumption | exact At.new1 _ _ _ | exact At.new2 _ _ _ _ | exact At.new3 _ _ _ _ _ | exact At.new5 _ _ _ _ _ _ _ | exact At.nx1 _ _ _ | exact At.nx2 _ _ _ _ | exact At.nx3 _ _ _ _ _ | exact At.ny1 _ _ _ _ | exact At.ny2 _ _ _ _ _ | exact At.ny3 _ _ _ _ _ _ | exact At.nz1 _ _ _ _ _ | exact At.nz2 _ _ _ _ _ _ | exact At.nz3 _ _ _ _ _ _ _ | exact Has.new1 _ _ _ | exact Has.new2 _ _ _ _ | exact Has.new3 _ _ _ _ _ | exact Has.nx1 _ _ _ | exact Has.nx2 _ _ _ _ | exact Has.nx3 _ _ _ _ _ | exact Has.ny1 _ _ _ _ | exact Has.ny2 _ _ _ _ _ | exact Has.ny3 _ _ _ _ _ _ | exact Has.nz1 _ _ _ _ _ | exact Has.nz2 _ _ _ _ _ _ | exact Has.nz3 _ _ _ _ _ _ _ | refine At.fill1 ?_ _ | refine At.fill2 ?_ _ _ | refine At.fill3 ?_ _ _ _ | refine At.swap ?_ (by first | omega | (simp; omega)) _ _ | refine At.alloc ?_ _ | refine At.drew ?_ | refine At.drewN ?_ _ | refine At.skip ?_ (by first | omega | (simp; omega)) _ _ | refine At.below (by assumption) ?_ | refine Has.alloc ?_ _ | refine Has.drew ?_ | refine Has.drewN ?_ _ | refine Has.set ?_ _ _ _ | refine Has.below (by assumption) ?_)); done))
  clear hB
  obtain ⟨r0, r1, r2, r3⟩ := RA.c4
  obtain ⟨f0, f1, f2, f3⟩ := RA.f4
  have lr := RA.lt
  go_wp2_with fail
  refine bodyPost_ret (v := .tuple #[wV t d (uI f lat d) v, .int .i64 0]) (by simp [results, Tryz.results12, go_sem, r0, r1, r2, r3]) rfl ?_
  rw [show nrm lon - nrm mid = d from HD.out]
  refine ⟨t, v, rfl, ht, ?_, by ((with_reducible repeat' (first | assumption | refine Gr.drew ?_ | refine Gr.drewN ?_ _ | refine Gr.alloc ?_ _ | refine Gr.set ?_ (by first | omega | (simp; omega)) _ _ | exact Gr.refl _)); done)⟩
  unfold vRf rRf
  rw [HSn.out, HCn.out]
  exact hv
set_option maxHeartbeats 2000000 in
theorem turnedness_no1 (a f m c : Nat) (mid lon lat : Int) (hp : scode a f m = c) (hc : 0 < c) (w : World) : Calls Tryz.prog 12 #[sV a f mid m, .agg #[.int .i64 lon, .int .i64 lat]] w fun e w' => e = .returned (.tuple #[wV 0 0 0 0, .int .i64 c]) ∧ Gr w w' := by
  have HS := hid (fun w => stripError_any a f m mid w)
  rw [hp] at HS
  clear hp
  have hpos : (0 : Int) < (c : Int) := by omega
  go_enter Tryz.func12, Tryz.ntmps12
  go_wp2_with fail
  refine (HS.out _).mono ?_
  rintro x w1 ⟨rfl, hB⟩
  have RA : At w1 (w.heap.size + 1 + 1) (wL 0 0 0 0) := At.below hB (At.newRow ((w.alloc (.cells #[.float .f64 a, .float .f64 f, .int .i64 mid, .float .f64 m] 26)).alloc (.cells #[.int .i64 lon, .int .i64 lat] 28)) (wL 0 0 0 0) 46 |> fun h => by simpa using h)
  have HC : Gr w w1 := Gr.step (by ((with_reducible repeat' (first | assumption | refine Gr.drew ?_ | refine Gr.drewN ?_ _ | refine Gr.alloc ?_ _ | refine Gr.set ?_ (by first | omega | (simp; omega)) _ _ | exact Gr.refl _)); done)) hB
  clear hB HS
  obtain ⟨r0, r1, r2, r3⟩ := RA.c4
  obtain ⟨f0, f1, f2, f3⟩ := RA.f4
  have lr := RA.lt
  go_wp2_with fail
  exact bodyPost_ret (v := .tuple #[wV 0 0 0 0, .int .i64 c]) (by simp [results, Tryz.results12, go_sem, r0, r1, r2, r3]) rfl ⟨rfl, by ((with_reducible repeat' (first | assumption | refine Gr.drew ?_ | refine Gr.drewN ?_ _ | refine Gr.alloc ?_ _ | refine Gr.set ?_ (by first | omega | (simp; omega)) _ _ | exact Gr.refl _)); done)⟩
set_option maxHeartbeats 8000000 in
theorem turnedness_no2 (a f m : Nat) (mid lon lat : Int) (hp : scode a f m = 0) (hp2 : offS lat (nrm lon - nrm mid)) (w : World) : Calls Tryz.prog 12 #[sV a f mid m, .agg #[.int .i64 lon, .int .i64 lat]] w fun e w' => e = .returned (.tuple #[wV 0 0 0 0, .int .i64 4]) ∧ Gr w w' := by
  have HS := hid (fun w => stripError_any a f m mid w)
  rw [hp] at HS
  have HO := hid hp2
  clear hp hp2
  obtain ⟨l0, l1⟩ := nrm_lt lon
  obtain ⟨d0, d1⟩ := nrm_lt mid
  have hw : IntKind.i64.wrap (nrm lon - nrm mid) = nrm lon - nrm mid := by simp [IntKind.wrap, IntKind.signed, IntKind.bits]; omega
  go_enter Tryz.func12, Tryz.ntmps12
  go_wp2_with fail
  refine (HS.out _).mono ?_
  rintro x w1 ⟨rfl, hB⟩
  have PA : At w1 w.heap.size (sL a f mid m) := At.below hB (((At.new4 w _ _ _ _ _).alloc _).alloc _)
  have QA : At w1 (w.heap.size + 1) (aL lon lat) := At.below hB (by ((with_reducible repeat' (first | assumption | exact At.new1 _ _ _ | exact At.new2 _ _ _ _ | exact At.new3 _ _ _ _ _ | exact At.new5 _ _ _ _ _ _ _ | exact At.nx1 _ _ _ | exact At.nx2 _ _ _ _ | exact At.nx3 _ _ _ _ _ | exact At.ny1 _ _ _ _ | exact At.ny2 _ _ _ _ _ | exact At.ny3 _ _ _ _ _ _ | exact At.nz1 _ _ _ _ _ | exact At.nz2 _ _ _ _ _ _ | exact At.nz3 _ _ _ _ _ _ _ | exact Has.new1 _ _ _ | exact Has.new2 _ _ _ _ | exact Has.new3 _ _ _ _ _ | exact Has.nx1 _ _ _ | exact Has.nx2 _ _ _ _ | exact Has.nx3 _ _ _ _ _ | exact Has.ny1 _ _ _ _ | exact Has.ny2 _ _ _ _ _ | exact Has.ny3 _ _ _ _ _ _ | exact Has.nz1 _ _ _ _ _ | exact Has.nz2 _ _ _ _ _ _ | exact Has.nz3 _ _ _ _ _ _ _ | refine At.fill1 ?_ _ | refine At.fill2 ?_ _ _ | refine At.fill3 ?_ _ _ _ | refine At.swap ?_ (by first | omega | (simp; omega)) _ _ | refine At.alloc ?_ _ | refine At.drew ?_ | refine At.drewN ?_ _ | refine At.skip ?_ (by first | omega | (simp; omega)) _ _ | refine At.below (by assumption) ?_ | refine Has.alloc ?_ _ | refine Has.drew ?_ | refine Has.drewN ?_ _ | refine Has.set ?_ _ _ _ | refine Has.below (by assumption) ?_)); done))
  have RA : At w1 (w.heap.size + 1 + 1) (wL 0 0 0 0) := At.below hB (At.newRow ((w.alloc (.cells #[.float .f64 a, .float .f64 f, .int .i64 mid, .float .f64 m] 26)).alloc (.cells #[.int .i64 lon, .int .i64 lat] 28)) (wL 0 0 0 0) 46 |> fun h => by simpa using h)
  have HC : Gr w w1 := Gr.step (by ((with_reducible repeat' (first | assumption | refine Gr.drew ?_ | refine Gr.drewN ?_ _ | refine Gr.alloc ?_ _ | refine Gr.set ?_ (by first | omega | (simp; omega)) _ _ | exact Gr.refl _)); done)) hB
  clear hB HS
  go_upto_region 4 with fail
  go_region_held (fun w' => w'.cell? ⟨w.heap.size, 0, none⟩ = some (.float .f64 a) ∧ w'.cell? ⟨w.heap.size, 1, none⟩ = some (.float .f64 f) ∧ w'.cell? ⟨w.heap.size, 2, none⟩ = some (.int .i64 mid) ∧ w'.cell? ⟨w.heap.size, 3, none⟩ = some (.float .f64 m) ∧ w'.cell? ⟨w.heap.size + 1, 0, none⟩ = some (.int .i64 lon) ∧ w'.cell? ⟨w.heap.size + 1, 1, none⟩ = some (.int .i64 lat))
    ((refine c42 (a := .float .f64 a) (b := .float .f64 f) (c := .int .i64 mid) (d := .float .f64 m) (x := .int .i64 lon) (y := .int .i64 lat) ?_ ?_; all_goals ((with_reducible repeat' (first | assumption | exact At.new1 _ _ _ | exact At.new2 _ _ _ _ | exact At.new3 _ _ _ _ _ | exact At.new5 _ _ _ _ _ _ _ | exact At.nx1 _ _ _ | exact At.nx2 _ _ _ _ | exact At.nx3 _ _ _ _ _ | exact At.ny1 _ _ _ _ | exact At.ny2 _ _ _ _ _ | exact At.ny3 _ _ _ _ _ _ | exact At.nz1 _ _ _ _ _ | exact At.nz2 _ _ _ _ _ _ | exact At.nz3 _ _ _ _ _ _ _ | exact Has.new1 _ _ _ | exact Has.new2 _ _ _ _ | exact Has.new3 _ _ _ _ _ | exact Has.nx1 _ _ _ | exact Has.nx2 _ _ _ _ | exact Has.nx3 _ _ _ _ _ | exact Has.ny1 _ _ _ _ | exact Has.ny2 _ _ _ _ _ | exact Has.ny3 _ _ _ _ _ _ | exact Has.nz1 _ _ _ _ _ | exact Has.nz2 _ _ _ _ _ _ | exact Has.nz3 _ _ _ _ _ _ _ | refine At.fill1 ?_ _ | refine At.fill2 ?_ _ _ | refine At.fill3 ?_ _ _ _ | refine At.swap ?_ (by first | omega | (simp; omega)) _ _ | refine At.alloc ?_ _ | refine At.drew ?_ | refine At.drewN ?_ _ | refine At.skip ?_ (by first | omega | (simp; omega)) _ _ | refine At.below (by assumption) ?_ | refine Has.alloc ?_ _ | refine Has.drew ?_ | refine Has.drewN ?_ _ | refine Has.set ?_ _ _ _ | refine Has.below (by assumption) ?_)); done)))
    ((go_at_call 35; refine (normOf_any _ _).mono ?_; rintro x w2 ⟨rfl, rfl⟩))
  obtain ⟨d, hd⟩ : ∃ d, nrm lon - nrm mid = d := ⟨_, rfl⟩
  rw [hd]
  rw [hd] at HO
  clear hw l0 l1 d0 d1 hd
  replace HC := HC.drew
  replace PA := PA.drew
  replace QA := QA.drew
  replace RA := RA.drew
  generalize hwd : World.drew _ = w3 at HC PA QA RA ⊢
  clear hwd
  obtain ⟨e, he⟩ : ∃ e, sgn d = e := ⟨_, rfl⟩
  have HN := HO.out
  unfold offS at HN
  rw [he] at HN
  have hoff : (decide (89000000000 < lat) || decide (lat < -89000000000) || decide (45000000000 < e) || decide (e < -45000000000)) = true := by
    rcases HN with h | h | h | h <;> simp [h]
  clear HN HO
  obtain ⟨q0, q1⟩ := QA.c2
  go_wp2_with fail
  refine (signedAngle_any _ _).mono ?_
  rintro x w4 ⟨rfl, rfl⟩
  rw [he]
  clear he
  obtain ⟨r0, r1, r2, r3⟩ := RA.c4
  obtain ⟨f0, f1, f2, f3⟩ := RA.f4
  have lr := RA.lt
  go_wp2_with fail
  all_goals exact bodyPost_ret (v := .tuple #[wV 0 0 0 0, .int .i64 4]) (by simp [results, Tryz.results12, go_sem, r0, r1, r2, r3]) rfl ⟨rfl, by ((with_reducible repeat' (first | assumption | refine Gr.drew ?_ | refine Gr.drewN ?_ _ | refine Gr.alloc ?_ _ | refine Gr.set ?_ (by first | omega | (simp; omega)) _ _ | exact Gr.refl _)); done)⟩
theorem turnedness_no (a f m : Nat) (mid lon lat : Int) (hp : tcode a f m lat (nrm lon - nrm mid) ≠ 0) (w : World) : Calls Tryz.prog 12 #[sV a f mid m, .agg #[.int .i64 lon, .int .i64 lat]] w fun e w' => e = .returned (.tuple #[wV 0 0 0 0, .int .i64 (tcode a f m lat (nrm lon - nrm mid))]) ∧ Gr w w' := by
  unfold tcode at hp ⊢
  by_cases h : scode a f m = 0
  · rw [if_pos h] at hp ⊢
    by_cases h2 : offS lat (nrm lon - nrm mid)
    · rw [if_pos h2]; exact turnedness_no2 a f m mid lon lat h h2 w
    · rw [if_neg h2] at hp; exact absurd rfl hp
  · rw [if_neg h]
    exact turnedness_no1 a f m _ mid lon lat rfl (by omega) w
end Go.Proofs.YtinopkmcddjgdaaGreatDoor
