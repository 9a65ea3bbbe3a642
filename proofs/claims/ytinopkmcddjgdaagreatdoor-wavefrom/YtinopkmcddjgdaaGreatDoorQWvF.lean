/-
  wave: ripple.
-/
import Derived.Test.YtinopkmcddjgdaaGreatDoorQWvC
import Derived.LoopN
namespace Go.Proofs.YtinopkmcddjgdaaGreatDoor
open Go.RowKit FB
attribute [local go_sem] run_store_float

/-- Both rows, as the document has them. -/
def rA (n : Nat) : Four := ⟨oM (some n) (horO lA1 (some n)), oM (n2O n) (horO lA2 (some n)), oM (n3O n) (horO lA3 (some n)), oM (n4O n) (some 4599207406156301484)⟩
def rB (n : Nat) : Four := ⟨oM (some n) (horO lB1 (some n)), oM (n2O n) (horO lB2 (some n)), oM (n3O n) (horO lB3 (some n)), oM (n4O n) (some 4583515287901101742)⟩
theorem idx0 (a b c d : Nat) (w : World) : (Instr.index 69 (rV a b c d) (.int .i64 0)).run Tryz.prog w = .ok (.float .f64 a) w := by
  simp [Instr.index, asIntOf, go_sem]
theorem idx1 (a b c d : Nat) (w : World) : (Instr.index 69 (rV a b c d) (.int .i64 1)).run Tryz.prog w = .ok (.float .f64 b) w := by
  simp [Instr.index, asIntOf, go_sem]
theorem idx2 (a b c d : Nat) (w : World) : (Instr.index 69 (rV a b c d) (.int .i64 2)).run Tryz.prog w = .ok (.float .f64 c) w := by
  simp [Instr.index, asIntOf, go_sem]
theorem idx3 (a b c d : Nat) (w : World) : (Instr.index 69 (rV a b c d) (.int .i64 3)).run Tryz.prog w = .ok (.float .f64 d) w := by
  simp [Instr.index, asIntOf, go_sem]
def vkO (k : Int) (o : Option Nat) : Option Nat := oM (some (floatOfInt .f64 k)) o
def wr (x : Int) : Int := IntKind.i64.wrap x
/-- Four waves, one upon the other. -/
def ripO (w : Int → Option Nat → Option Nat) (z : Option Nat) (u : Int) (vO : Option Nat) (s : Four) : Option Nat :=
  oA (oA (oA (oA z (oM s.a (w (wr (2 * u)) (vkO 2 vO)))) (oM s.b (w (wr (4 * u)) (vkO 4 vO)))) (oM s.c (w (wr (6 * u)) (vkO 6 vO)))) (oM s.d (w (wr (8 * u)) (vkO 8 vO)))
set_option maxRecDepth 8000 in
set_option maxHeartbeats 4000000 in
theorem ripple_sine (u : Int) (zR zI vO : Option Nat) (s : Four) (a b v p0 p1 p2 p3 : Nat) (hr : Got zR a) (hi : Got zI b) (hv : Got vO v) (hp : GF s p0 p1 p2 p3) (w : World) : Calls Tryz.prog 26 #[cV a b, .int .i64 u, .float .f64 v, rV p0 p1 p2 p3, .func (.func 27) #[] #[]] w fun e w' => ∃ r i, e = .returned (cV r i) ∧ GW (ripO snR zR u vO s) r ∧ GW (ripO snI zI u vO s) i ∧ Gr w w' := by
  obtain ⟨mF, aF, sF, qF, mD, aD, sD, qD, hm, ha, hss, hq, gm, ga, gs, gq⟩ := ops
  obtain ⟨cR, cI, cD, hcadd, gc⟩ := cadd
  obtain ⟨gp0, gp1, gp2, gp3⟩ := hp
  obtain ⟨u2, e2⟩ : ∃ p, IntKind.i64.wrap (2 * u) = p := ⟨_, rfl⟩
  have E2 : Hid (wr (2 * u) = u2) := e2
  obtain ⟨u4, e4⟩ : ∃ p, IntKind.i64.wrap (4 * u) = p := ⟨_, rfl⟩
  have E4 : Hid (wr (4 * u) = u4) := e4
  obtain ⟨u6, e6⟩ : ∃ p, IntKind.i64.wrap (6 * u) = p := ⟨_, rfl⟩
  have E6 : Hid (wr (6 * u) = u6) := e6
  obtain ⟨u8, e8⟩ : ∃ p, IntKind.i64.wrap (8 * u) = p := ⟨_, rfl⟩
  have E8 : Hid (wr (8 * u) = u8) := e8
  have j0 := fun w => idx0 p0 p1 p2 p3 w
  have j1 := fun w => idx1 p0 p1 p2 p3 w
  have j2 := fun w => idx2 p0 p1 p2 p3 w
  have j3 := fun w => idx3 p0 p1 p2 p3 w
  have HC : Gr w (w.alloc (.cells #[.float .f64 p0, .float .f64 p1, .float .f64 p2, .float .f64 p3] 69)) := by ((with_reducible repeat' (first | assumption | refine Gr.drew ?_ | refine Gr.drewN ?_ _ | refine Gr.alloc ?_ _ | refine Gr.set ?_ (by first | omega | (simp; omega)) _ _ | exact Gr.refl _)); done)
  go_enter Tryz.func26, Tryz.ntmps26
  go_wp2
  generalize w.alloc (.cells #[.float .f64 p0, .float .f64 p1, .float .f64 p2, .float .f64 p3] 69) = w0 at *
  refine wp_loop_rounds 5 ?_
  rw [rounds_succ]
  go_wp2_with fail
  have gv2 := gm _ _ _ _ w0 (gsm (floatOfInt .f64 2)) hv
  refine (sine_any _ (vkO 2 vO) _ gv2 _).mono ?_
  rintro e w1a ⟨r0, i0, rfl, h0r, h0i, hB⟩
  replace HC : Gr w w1a := Gr.step (by ((with_reducible repeat' (first | assumption | refine Gr.drewN ?_ _ | refine Gr.drew ?_ | refine Gr.alloc ?_ _ | exact Gr.refl _)); done)) hB
  clear hB gv2
  go_wp2_with fail
  refine (times_any s.a _ _ _ _ _ gp0.1 h0r.1 h0i.1 _).mono ?_
  rintro e w1b ⟨t0, q0, rfl, h0t, h0q, hB⟩
  replace HC : Gr w w1b := Gr.step HC hB
  clear hB
  have hc0 := gc _ _ _ _ _ _ _ _ w1b hr hi h0t.1 h0q.1
  go_upto_region 6 with fail
  generalize cR a b t0 q0 w1b = x0 at hc0 ⊢
  generalize cI a b t0 q0 w1b = y0 at hc0 ⊢
  obtain ⟨gx0, gy0⟩ := hc0
  generalize hw : World.drewN w1b _ = w1
  replace HC : Gr w w1 := by rw [← hw]; exact HC.drewN _
  clear hw
  go_wp2
  rw [rounds_succ]
  go_wp2_with fail
  have gv4 := gm _ _ _ _ w1 (gsm (floatOfInt .f64 4)) hv
  refine (sine_any _ (vkO 4 vO) _ gv4 _).mono ?_
  rintro e w2a ⟨r1, i1, rfl, h1r, h1i, hB⟩
  replace HC : Gr w w2a := Gr.step (by ((with_reducible repeat' (first | assumption | refine Gr.drewN ?_ _ | refine Gr.drew ?_ | refine Gr.alloc ?_ _ | exact Gr.refl _)); done)) hB
  clear hB gv4
  go_wp2_with fail
  refine (times_any s.b _ _ _ _ _ gp1.1 h1r.1 h1i.1 _).mono ?_
  rintro e w2b ⟨t1, q1, rfl, h1t, h1q, hB⟩
  replace HC : Gr w w2b := Gr.step HC hB
  clear hB
  have hc1 := gc _ _ _ _ _ _ _ _ w2b gx0.1 gy0.1 h1t.1 h1q.1
  go_upto_region 6 with fail
  generalize cR x0 y0 t1 q1 w2b = x1 at hc1 ⊢
  generalize cI x0 y0 t1 q1 w2b = y1 at hc1 ⊢
  obtain ⟨gx1, gy1⟩ := hc1
  generalize hw : World.drewN w2b _ = w2
  replace HC : Gr w w2 := by rw [← hw]; exact HC.drewN _
  clear hw
  go_wp2
  rw [rounds_succ]
  go_wp2_with fail
  have gv6 := gm _ _ _ _ w2 (gsm (floatOfInt .f64 6)) hv
  refine (sine_any _ (vkO 6 vO) _ gv6 _).mono ?_
  rintro e w3a ⟨r2, i2, rfl, h2r, h2i, hB⟩
  replace HC : Gr w w3a := Gr.step (by ((with_reducible repeat' (first | assumption | refine Gr.drewN ?_ _ | refine Gr.drew ?_ | refine Gr.alloc ?_ _ | exact Gr.refl _)); done)) hB
  clear hB gv6
  go_wp2_with fail
  refine (times_any s.c _ _ _ _ _ gp2.1 h2r.1 h2i.1 _).mono ?_
  rintro e w3b ⟨t2, q2, rfl, h2t, h2q, hB⟩
  replace HC : Gr w w3b := Gr.step HC hB
  clear hB
  have hc2 := gc _ _ _ _ _ _ _ _ w3b gx1.1 gy1.1 h2t.1 h2q.1
  go_upto_region 6 with fail
  generalize cR x1 y1 t2 q2 w3b = x2 at hc2 ⊢
  generalize cI x1 y1 t2 q2 w3b = y2 at hc2 ⊢
  obtain ⟨gx2, gy2⟩ := hc2
  generalize hw : World.drewN w3b _ = w3
  replace HC : Gr w w3 := by rw [← hw]; exact HC.drewN _
  clear hw
  go_wp2
  rw [rounds_succ]
  go_wp2_with fail
  have gv8 := gm _ _ _ _ w3 (gsm (floatOfInt .f64 8)) hv
  refine (sine_any _ (vkO 8 vO) _ gv8 _).mono ?_
  rintro e w4a ⟨r3, i3, rfl, h3r, h3i, hB⟩
  replace HC : Gr w w4a := Gr.step (by ((with_reducible repeat' (first | assumption | refine Gr.drewN ?_ _ | refine Gr.drew ?_ | refine Gr.alloc ?_ _ | exact Gr.refl _)); done)) hB
  clear hB gv8
  go_wp2_with fail
  refine (times_any s.d _ _ _ _ _ gp3.1 h3r.1 h3i.1 _).mono ?_
  rintro e w4b ⟨t3, q3, rfl, h3t, h3q, hB⟩
  replace HC : Gr w w4b := Gr.step HC hB
  clear hB
  have hc3 := gc _ _ _ _ _ _ _ _ w4b gx2.1 gy2.1 h3t.1 h3q.1
  go_wp2
  rw [rounds_succ]
  go_wp2
  go_ret
  refine ⟨_, _, rfl, ?_, ?_, by ((with_reducible repeat' (first | assumption | refine Gr.drewN ?_ _ | refine Gr.drew ?_ | refine Gr.alloc ?_ _ | exact Gr.refl _)); done)⟩
  · unfold ripO; rw [E2.out, E4.out, E6.out, E8.out]; exact hc3.1
  · unfold ripO; rw [E2.out, E4.out, E6.out, E8.out]; exact hc3.2
set_option maxRecDepth 8000 in
set_option maxHeartbeats 4000000 in
theorem ripple_cosine (u : Int) (zR zI vO : Option Nat) (s : Four) (a b v p0 p1 p2 p3 : Nat) (hr : Got zR a) (hi : Got zI b) (hv : Got vO v) (hp : GF s p0 p1 p2 p3) (w : World) : Calls Tryz.prog 26 #[cV a b, .int .i64 u, .float .f64 v, rV p0 p1 p2 p3, .func (.func 29) #[] #[]] w fun e w' => ∃ r i, e = .returned (cV r i) ∧ GW (ripO csR zR u vO s) r ∧ GW (ripO csI zI u vO s) i ∧ Gr w w' := by
  obtain ⟨mF, aF, sF, qF, mD, aD, sD, qD, hm, ha, hss, hq, gm, ga, gs, gq⟩ := ops
  obtain ⟨cR, cI, cD, hcadd, gc⟩ := cadd
  obtain ⟨gp0, gp1, gp2, gp3⟩ := hp
  obtain ⟨u2, e2⟩ : ∃ p, IntKind.i64.wrap (2 * u) = p := ⟨_, rfl⟩
  have E2 : Hid (wr (2 * u) = u2) := e2
  obtain ⟨u4, e4⟩ : ∃ p, IntKind.i64.wrap (4 * u) = p := ⟨_, rfl⟩
  have E4 : Hid (wr (4 * u) = u4) := e4
  obtain ⟨u6, e6⟩ : ∃ p, IntKind.i64.wrap (6 * u) = p := ⟨_, rfl⟩
  have E6 : Hid (wr (6 * u) = u6) := e6
  obtain ⟨u8, e8⟩ : ∃ p, IntKind.i64.wrap (8 * u) = p := ⟨_, rfl⟩
  have E8 : Hid (wr (8 * u) = u8) := e8
  have j0 := fun w => idx0 p0 p1 p2 p3 w
  have j1 := fun w => idx1 p0 p1 p2 p3 w
  have j2 := fun w => idx2 p0 p1 p2 p3 w
  have j3 := fun w => idx3 p0 p1 p2 p3 w
  have HC : Gr w (w.alloc (.cells #[.float .f64 p0, .float .f64 p1, .float .f64 p2, .float .f64 p3] 69)) := by ((with_reducible repeat' (first | assumption | refine Gr.drew ?_ | refine Gr.drewN ?_ _ | refine Gr.alloc ?_ _ | refine Gr.set ?_ (by first | omega | (simp; omega)) _ _ | exact Gr.refl _)); done)
  go_enter Tryz.func26, Tryz.ntmps26
  go_wp2
  generalize w.alloc (.cells #[.float .f64 p0, .float .f64 p1, .float .f64 p2, .float .f64 p3] 69) = w0 at *
  refine wp_loop_rounds 5 ?_
  rw [rounds_succ]
  go_wp2_with fail
  have gv2 := gm _ _ _ _ w0 (gsm (floatOfInt .f64 2)) hv
  refine (cosine_any _ (vkO 2 vO) _ gv2 _).mono ?_
  rintro e w1a ⟨r0, i0, rfl, h0r, h0i, hB⟩
  replace HC : Gr w w1a := Gr.step (by ((with_reducible repeat' (first | assumption | refine Gr.drewN ?_ _ | refine Gr.drew ?_ | refine Gr.alloc ?_ _ | exact Gr.refl _)); done)) hB
  clear hB gv2
  go_wp2_with fail
  refine (times_any s.a _ _ _ _ _ gp0.1 h0r.1 h0i.1 _).mono ?_
  rintro e w1b ⟨t0, q0, rfl, h0t, h0q, hB⟩
  replace HC : Gr w w1b := Gr.step HC hB
  clear hB
  have hc0 := gc _ _ _ _ _ _ _ _ w1b hr hi h0t.1 h0q.1
  go_upto_region 6 with fail
  generalize cR a b t0 q0 w1b = x0 at hc0 ⊢
  generalize cI a b t0 q0 w1b = y0 at hc0 ⊢
  obtain ⟨gx0, gy0⟩ := hc0
  generalize hw : World.drewN w1b _ = w1
  replace HC : Gr w w1 := by rw [← hw]; exact HC.drewN _
  clear hw
  go_wp2
  rw [rounds_succ]
  go_wp2_with fail
  have gv4 := gm _ _ _ _ w1 (gsm (floatOfInt .f64 4)) hv
  refine (cosine_any _ (vkO 4 vO) _ gv4 _).mono ?_
  rintro e w2a ⟨r1, i1, rfl, h1r, h1i, hB⟩
  replace HC : Gr w w2a := Gr.step (by ((with_reducible repeat' (first | assumption | refine Gr.drewN ?_ _ | refine Gr.drew ?_ | refine Gr.alloc ?_ _ | exact Gr.refl _)); done)) hB
  clear hB gv4
  go_wp2_with fail
  refine (times_any s.b _ _ _ _ _ gp1.1 h1r.1 h1i.1 _).mono ?_
  rintro e w2b ⟨t1, q1, rfl, h1t, h1q, hB⟩
  replace HC : Gr w w2b := Gr.step HC hB
  clear hB
  have hc1 := gc _ _ _ _ _ _ _ _ w2b gx0.1 gy0.1 h1t.1 h1q.1
  go_upto_region 6 with fail
  generalize cR x0 y0 t1 q1 w2b = x1 at hc1 ⊢
  generalize cI x0 y0 t1 q1 w2b = y1 at hc1 ⊢
  obtain ⟨gx1, gy1⟩ := hc1
  generalize hw : World.drewN w2b _ = w2
  replace HC : Gr w w2 := by rw [← hw]; exact HC.drewN _
  clear hw
  go_wp2
  rw [rounds_succ]
  go_wp2_with fail
  have gv6 := gm _ _ _ _ w2 (gsm (floatOfInt .f64 6)) hv
  refine (cosine_any _ (vkO 6 vO) _ gv6 _).mono ?_
  rintro e w3a ⟨r2, i2, rfl, h2r, h2i, hB⟩
  replace HC : Gr w w3a := Gr.step (by ((with_reducible repeat' (first | assumption | refine Gr.drewN ?_ _ | refine Gr.drew ?_ | refine Gr.alloc ?_ _ | exact Gr.refl _)); done)) hB
  clear hB gv6
  go_wp2_with fail
  refine (times_any s.c _ _ _ _ _ gp2.1 h2r.1 h2i.1 _).mono ?_
  rintro e w3b ⟨t2, q2, rfl, h2t, h2q, hB⟩
  replace HC : Gr w w3b := Gr.step HC hB
  clear hB
  have hc2 := gc _ _ _ _ _ _ _ _ w3b gx1.1 gy1.1 h2t.1 h2q.1
  go_upto_region 6 with fail
  generalize cR x1 y1 t2 q2 w3b = x2 at hc2 ⊢
  generalize cI x1 y1 t2 q2 w3b = y2 at hc2 ⊢
  obtain ⟨gx2, gy2⟩ := hc2
  generalize hw : World.drewN w3b _ = w3
  replace HC : Gr w w3 := by rw [← hw]; exact HC.drewN _
  clear hw
  go_wp2
  rw [rounds_succ]
  go_wp2_with fail
  have gv8 := gm _ _ _ _ w3 (gsm (floatOfInt .f64 8)) hv
  refine (cosine_any _ (vkO 8 vO) _ gv8 _).mono ?_
  rintro e w4a ⟨r3, i3, rfl, h3r, h3i, hB⟩
  replace HC : Gr w w4a := Gr.step (by ((with_reducible repeat' (first | assumption | refine Gr.drewN ?_ _ | refine Gr.drew ?_ | refine Gr.alloc ?_ _ | exact Gr.refl _)); done)) hB
  clear hB gv8
  go_wp2_with fail
  refine (times_any s.d _ _ _ _ _ gp3.1 h3r.1 h3i.1 _).mono ?_
  rintro e w4b ⟨t3, q3, rfl, h3t, h3q, hB⟩
  replace HC : Gr w w4b := Gr.step HC hB
  clear hB
  have hc3 := gc _ _ _ _ _ _ _ _ w4b gx2.1 gy2.1 h3t.1 h3q.1
  go_wp2
  rw [rounds_succ]
  go_wp2
  go_ret
  refine ⟨_, _, rfl, ?_, ?_, by ((with_reducible repeat' (first | assumption | refine Gr.drewN ?_ _ | refine Gr.drew ?_ | refine Gr.alloc ?_ _ | exact Gr.refl _)); done)⟩
  · unfold ripO; rw [E2.out, E4.out, E6.out, E8.out]; exact hc3.1
  · unfold ripO; rw [E2.out, E4.out, E6.out, E8.out]; exact hc3.2
end Go.Proofs.YtinopkmcddjgdaaGreatDoor
