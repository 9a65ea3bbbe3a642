/-
  GrainMakes: the law's walk, where the fraction fits.
-/
import Derived.Test.YtgjjgicojedefaaDoorFrK
namespace Go.Proofs.YtgjjgicojedefaaDoor
open Go.RowKit BG
attribute [local go_sem ↓] Go.wp_at_zero Go.wp_at_succ

set_option maxHeartbeats 1000000 in
theorem gm_a (g : Nat → Addr) (n d p q r s : Int) (hn : I64 n) (hd : I64 d) (hn' : n != -9223372036854775808) (hd' : d != -9223372036854775808) (h0 : ¬ d = 0) (hf : fits (rn n.natAbs d.natAbs) (rd n.natAbs d.natAbs)) (hp : I64 p) (ha : ¬ Rgt p q) (w : World) (hl : Laid w g) : Calls Tryd.prog 4 #[.int .i64 n, .int .i64 d, fa p q, fa r s] w fun e w' => e = .returned (.bool true) ∧ Below w.heap.size w w' := by
  have HM := hidb makes_any
  have HN := hidb (fun w => small_any n w)
  rw [hn'] at HN
  have HD := hidb (fun w => small_any d w)
  rw [hd'] at HD
  have HZ := hidb (fun w => make_ok n d hn.1 hn.2 hd.1 hd.2 h0 hf w)
  have n1 := i64_lt hn hn'
  have d1 := i64_lt hd hd'
  have SN := hidb (fun w => signedOf_any n n1 hn.2 w)
  have SD := hidb (fun w => signedOf_any d d1 hd.2 w)
  have lx : n.natAbs ≤ 2 * lid := i64_lid n1 hn.2
  have ly : d.natAbs ≤ 2 * lid := i64_lid d1 hd.2
  have HR := hidb (fun w m k u v (a : Sg w m u n) (b : Sg w k v d) => reduced_any lx ly h0 a b hf)
  have HX := hidb (fun w => isRight_any p q w)
  have HY := hidb (fun w => isRight_any r s w)
  rw [decide_eq_false ha] at HX
  generalize decide (Rgt r s) = by' at HY
  have KC := hidb (fun w hl => cmp_no1 g (c := r) (d := s) hp.1 hp.2 ha w hl)
  have KF := hidb (fun w hl => floor_no g hp.1 hp.2 ha w hl)
  have KN := hidb (fun w hl => near_no g hp.1 hp.2 ha w hl)
  have H3 := hidb (fun w hl => coded_3 g w hl)
  clear hp ha
  clear lx ly hf hn hd hn' hd' n1 d1
  unfold frV at *
  generalize (if (decide (n < 0) != decide (d < 0)) = true then -((rn n.natAbs d.natAbs : Nat) : Int) else ((rn n.natAbs d.natAbs : Nat) : Int)) = v1 at *
  generalize ((rd n.natAbs d.natAbs : Nat) : Int) = v2 at *
  have b1 : (v1 != v1) = false := by simp
  have b2 : (v2 != v2) = false := by simp
  go_enter Tryd.func4, Tryd.ntmps4
  go_wp2_with fail
  refine (HM.out _).mono ?_
  rintro e w1 ⟨rfl, hB⟩
  have HC := Gr.step (((Gr.refl w).alloc (fc p q)).alloc (fc r s)) hB
  have PA := At.below hB ((At.new2 w (.int .i64 p) (.int .i64 q) 29).alloc (fc r s))
  have QA := At.below hB (At.nx2 (W := w) (fc p q) (.int .i64 r) (.int .i64 s) 29)
  clear hB
  go_wp2_with fail
  refine (HN.out _).mono ?_
  rintro e w2 ⟨rfl, rfl⟩
  go_wp2_with fail
  refine (HD.out _).mono ?_
  rintro e w3 ⟨rfl, rfl⟩
  clear HM HN HD
  go_wp2_with fail
  refine (HZ.out _).mono ?_
  rintro e w4 ⟨rfl, hB⟩
  replace HC := Gr.step HC hB
  replace PA := (At.below hB PA).alloc (fc v1 v2)
  replace QA := (At.below hB QA).alloc (fc v1 v2)
  clear hB HZ
  have FA := At.new2 w4 (.int .i64 v1) (.int .i64 v2) 29
  replace HC := HC.alloc (fc v1 v2)
  go_wp2_with fail
  refine (SN.out _).mono ?_
  rintro e w5 ⟨m1, u1, rfl, s1, hB, _⟩
  replace HC := Gr.step HC hB
  replace FA := At.below hB FA
  replace PA := At.below hB PA
  replace QA := At.below hB QA
  clear hB SN
  have S1 := hidb s1
  clear s1
  go_wp2_with fail
  refine (SD.out _).mono ?_
  rintro e w6 ⟨m2, u2, rfl, s2, hB, _⟩
  replace HC := Gr.step HC hB
  replace FA := At.below hB FA
  replace PA := At.below hB PA
  replace QA := At.below hB QA
  replace S1 := hidb (S1.out.below hB)
  have S2 := hidb s2
  clear hB SD s2
  go_wp2_with fail
  refine (HR.out _ _ _ _ _ S1.out S2.out).mono ?_
  rintro e w7 ⟨rfl, hB⟩
  replace HC := Gr.step HC hB
  replace FA := At.below hB FA
  replace PA := At.below hB PA
  replace QA := At.below hB QA
  clear hB HR S1 S2
  obtain ⟨f0, f1⟩ := FA.c2
  obtain ⟨p0, p1⟩ := PA.c2
  obtain ⟨q0, q1⟩ := QA.c2
  have l1 := FA.lt
  have l2 := PA.lt
  have l3 := QA.lt
  go_wp2_with fail
  refine (HX.out _).mono ?_
  rintro e w8 ⟨rfl, hB⟩
  replace HC := Gr.step (HC.alloc _) hB
  replace PA := At.below hB (PA.alloc _)
  replace QA := At.below hB (QA.alloc _)
  clear hB HX FA f0 f1 p0 p1 q0 q1 l1 l2 l3
  obtain ⟨p0, p1⟩ := PA.c2
  obtain ⟨q0, q1⟩ := QA.c2
  go_wp2_with fail
  refine (HY.out _).mono ?_
  rintro e w9 ⟨rfl, hB⟩
  replace HC := Gr.step HC hB
  replace PA := At.below hB PA
  replace QA := At.below hB QA
  clear hB HY p0 p1 q0 q1
  obtain ⟨p0, p1⟩ := PA.c2
  obtain ⟨q0, q1⟩ := QA.c2
  go_wp2_with fail
  refine (KC.out _ (hl.below HC.out)).mono ?_
  rintro e w10 ⟨rfl, hB⟩
  replace HC := Gr.step HC hB
  replace PA := At.below hB PA
  replace QA := At.below hB QA
  clear hB KC p0 p1 q0 q1
  obtain ⟨p0, p1⟩ := PA.c2
  obtain ⟨q0, q1⟩ := QA.c2
  go_wp2_with fail
  refine (KF.out _ (hl.below HC.out)).mono ?_
  rintro e w11 ⟨rfl, hB⟩
  replace HC := Gr.step HC hB
  replace PA := At.below hB PA
  replace QA := At.below hB QA
  clear hB KF p0 p1 q0 q1
  obtain ⟨p0, p1⟩ := PA.c2
  obtain ⟨q0, q1⟩ := QA.c2
  go_wp2_with fail
  refine (KN.out _ (hl.below HC.out)).mono ?_
  rintro e w12 ⟨rfl, hB⟩
  replace HC := Gr.step HC hB
  replace PA := At.below hB PA
  replace QA := At.below hB QA
  clear hB KN p0 p1 q0 q1
  obtain ⟨p0, p1⟩ := PA.c2
  obtain ⟨q0, q1⟩ := QA.c2
  clear p0 p1 q0 q1
  go_wp2_with fail
  refine (H3.out _ (hl.below HC.out)).mono ?_
  rintro e w13 ⟨rfl, hB⟩
  replace HC := Gr.step HC hB
  clear hB
  go_wp2_with fail
  refine (H3.out _ (hl.below HC.out)).mono ?_
  rintro e w14 ⟨rfl, hB⟩
  replace HC := Gr.step HC hB
  clear hB
  go_wp2_with fail
  refine (H3.out _ (hl.below HC.out)).mono ?_
  rintro e w15 ⟨rfl, hB⟩
  replace HC := Gr.step HC hB
  clear hB
  go_wp2
  go_ret
  exact ⟨rfl, HC⟩
set_option maxHeartbeats 1000000 in
theorem gm_b (g : Nat → Addr) (n d p q r s : Int) (hn : I64 n) (hd : I64 d) (hn' : n != -9223372036854775808) (hd' : d != -9223372036854775808) (h0 : ¬ d = 0) (hf : fits (rn n.natAbs d.natAbs) (rd n.natAbs d.natAbs)) (hr : I64 r) (ha : Rgt p q) (hb : ¬ Rgt r s) (w : World) (hl : Laid w g) : Calls Tryd.prog 4 #[.int .i64 n, .int .i64 d, fa p q, fa r s] w fun e w' => e = .returned (.bool true) ∧ Below w.heap.size w w' := by
  have HM := hidb makes_any
  have HN := hidb (fun w => small_any n w)
  rw [hn'] at HN
  have HD := hidb (fun w => small_any d w)
  rw [hd'] at HD
  have HZ := hidb (fun w => make_ok n d hn.1 hn.2 hd.1 hd.2 h0 hf w)
  have n1 := i64_lt hn hn'
  have d1 := i64_lt hd hd'
  have SN := hidb (fun w => signedOf_any n n1 hn.2 w)
  have SD := hidb (fun w => signedOf_any d d1 hd.2 w)
  have lx : n.natAbs ≤ 2 * lid := i64_lid n1 hn.2
  have ly : d.natAbs ≤ 2 * lid := i64_lid d1 hd.2
  have HR := hidb (fun w m k u v (a : Sg w m u n) (b : Sg w k v d) => reduced_any lx ly h0 a b hf)
  have HX := hidb (fun w => isRight_any p q w)
  have HY := hidb (fun w => isRight_any r s w)
  rw [decide_eq_true ha] at HX
  rw [decide_eq_false hb] at HY
  have KC := hidb (fun w hl => cmp_no2 g hr.1 hr.2 ha hb w hl)
  have KF := hidb (fun w => floor_ok ha w)
  have KN := hidb (fun w => near_ok ha w)
  have GF := hidb (fun w => floorOf_any p q ha.sml ha.1.1 ha.1.2.1 w)
  have GN := hidb (fun w => nearOf_any p q ha.sml ha.1.1 ha.1.2.1 w)
  have H3 := hidb (fun w hl => coded_3 g w hl)
  clear hr
  clear ha hb
  generalize p / q = fl at *
  generalize nea p q = ne at *
  have bf : (fl != fl) = false := by simp
  have bn : (ne != ne) = false := by simp
  clear lx ly hf hn hd hn' hd' n1 d1
  unfold frV at *
  generalize (if (decide (n < 0) != decide (d < 0)) = true then -((rn n.natAbs d.natAbs : Nat) : Int) else ((rn n.natAbs d.natAbs : Nat) : Int)) = v1 at *
  generalize ((rd n.natAbs d.natAbs : Nat) : Int) = v2 at *
  have b1 : (v1 != v1) = false := by simp
  have b2 : (v2 != v2) = false := by simp
  go_enter Tryd.func4, Tryd.ntmps4
  go_wp2_with fail
  refine (HM.out _).mono ?_
  rintro e w1 ⟨rfl, hB⟩
  have HC := Gr.step (((Gr.refl w).alloc (fc p q)).alloc (fc r s)) hB
  have PA := At.below hB ((At.new2 w (.int .i64 p) (.int .i64 q) 29).alloc (fc r s))
  have QA := At.below hB (At.nx2 (W := w) (fc p q) (.int .i64 r) (.int .i64 s) 29)
  clear hB
  go_wp2_with fail
  refine (HN.out _).mono ?_
  rintro e w2 ⟨rfl, rfl⟩
  go_wp2_with fail
  refine (HD.out _).mono ?_
  rintro e w3 ⟨rfl, rfl⟩
  clear HM HN HD
  go_wp2_with fail
  refine (HZ.out _).mono ?_
  rintro e w4 ⟨rfl, hB⟩
  replace HC := Gr.step HC hB
  replace PA := (At.below hB PA).alloc (fc v1 v2)
  replace QA := (At.below hB QA).alloc (fc v1 v2)
  clear hB HZ
  have FA := At.new2 w4 (.int .i64 v1) (.int .i64 v2) 29
  replace HC := HC.alloc (fc v1 v2)
  go_wp2_with fail
  refine (SN.out _).mono ?_
  rintro e w5 ⟨m1, u1, rfl, s1, hB, _⟩
  replace HC := Gr.step HC hB
  replace FA := At.below hB FA
  replace PA := At.below hB PA
  replace QA := At.below hB QA
  clear hB SN
  have S1 := hidb s1
  clear s1
  go_wp2_with fail
  refine (SD.out _).mono ?_
  rintro e w6 ⟨m2, u2, rfl, s2, hB, _⟩
  replace HC := Gr.step HC hB
  replace FA := At.below hB FA
  replace PA := At.below hB PA
  replace QA := At.below hB QA
  replace S1 := hidb (S1.out.below hB)
  have S2 := hidb s2
  clear hB SD s2
  go_wp2_with fail
  refine (HR.out _ _ _ _ _ S1.out S2.out).mono ?_
  rintro e w7 ⟨rfl, hB⟩
  replace HC := Gr.step HC hB
  replace FA := At.below hB FA
  replace PA := At.below hB PA
  replace QA := At.below hB QA
  clear hB HR S1 S2
  obtain ⟨f0, f1⟩ := FA.c2
  obtain ⟨p0, p1⟩ := PA.c2
  obtain ⟨q0, q1⟩ := QA.c2
  have l1 := FA.lt
  have l2 := PA.lt
  have l3 := QA.lt
  go_wp2_with fail
  refine (HX.out _).mono ?_
  rintro e w8 ⟨rfl, hB⟩
  replace HC := Gr.step (HC.alloc _) hB
  replace PA := At.below hB (PA.alloc _)
  replace QA := At.below hB (QA.alloc _)
  clear hB HX FA f0 f1 p0 p1 q0 q1 l1 l2 l3
  obtain ⟨p0, p1⟩ := PA.c2
  obtain ⟨q0, q1⟩ := QA.c2
  go_wp2_with fail
  refine (HY.out _).mono ?_
  rintro e w9 ⟨rfl, hB⟩
  replace HC := Gr.step HC hB
  replace PA := At.below hB PA
  replace QA := At.below hB QA
  clear hB HY p0 p1 q0 q1
  obtain ⟨p0, p1⟩ := PA.c2
  obtain ⟨q0, q1⟩ := QA.c2
  go_wp2_with fail
  refine (KC.out _ (hl.below HC.out)).mono ?_
  rintro e w10 ⟨rfl, hB⟩
  replace HC := Gr.step HC hB
  replace PA := At.below hB PA
  replace QA := At.below hB QA
  clear hB KC p0 p1 q0 q1
  obtain ⟨p0, p1⟩ := PA.c2
  obtain ⟨q0, q1⟩ := QA.c2
  go_wp2_with fail
  refine (KF.out _).mono ?_
  rintro e w11 ⟨rfl, hB⟩
  replace HC := Gr.step HC hB
  replace PA := At.below hB PA
  replace QA := At.below hB QA
  clear hB KF p0 p1 q0 q1
  obtain ⟨p0, p1⟩ := PA.c2
  obtain ⟨q0, q1⟩ := QA.c2
  go_wp2_with fail
  refine (KN.out _).mono ?_
  rintro e w12 ⟨rfl, hB⟩
  replace HC := Gr.step HC hB
  replace PA := At.below hB PA
  replace QA := At.below hB QA
  clear hB KN p0 p1 q0 q1
  obtain ⟨p0, p1⟩ := PA.c2
  obtain ⟨q0, q1⟩ := QA.c2
  go_wp2_with fail
  refine (GF.out _).mono ?_
  rintro e w13 ⟨rfl, hB⟩
  replace HC := Gr.step HC hB
  replace PA := At.below hB PA
  replace QA := At.below hB QA
  clear hB GF p0 p1 q0 q1
  obtain ⟨p0, p1⟩ := PA.c2
  obtain ⟨q0, q1⟩ := QA.c2
  go_wp2_with fail
  refine (GN.out _).mono ?_
  rintro e w14 ⟨rfl, hB⟩
  replace HC := Gr.step HC hB
  replace PA := At.below hB PA
  replace QA := At.below hB QA
  clear hB GN p0 p1 q0 q1
  obtain ⟨p0, p1⟩ := PA.c2
  obtain ⟨q0, q1⟩ := QA.c2
  go_wp2_with fail
  refine (H3.out _ (hl.below HC.out)).mono ?_
  rintro e w15 ⟨rfl, hB⟩
  replace HC := Gr.step HC hB
  clear hB
  go_wp2
  go_ret
  exact ⟨rfl, HC⟩
set_option maxHeartbeats 1000000 in
theorem gm_c (n d p q r s : Int) (hn : I64 n) (hd : I64 d) (hn' : n != -9223372036854775808) (hd' : d != -9223372036854775808) (h0 : ¬ d = 0) (hf : fits (rn n.natAbs d.natAbs) (rd n.natAbs d.natAbs)) (ha : Rgt p q) (hb : Rgt r s) (w : World) : Calls Tryd.prog 4 #[.int .i64 n, .int .i64 d, fa p q, fa r s] w fun e w' => e = .returned (.bool true) ∧ Below w.heap.size w w' := by
  have HM := hidb makes_any
  have HN := hidb (fun w => small_any n w)
  rw [hn'] at HN
  have HD := hidb (fun w => small_any d w)
  rw [hd'] at HD
  have HZ := hidb (fun w => make_ok n d hn.1 hn.2 hd.1 hd.2 h0 hf w)
  have n1 := i64_lt hn hn'
  have d1 := i64_lt hd hd'
  have SN := hidb (fun w => signedOf_any n n1 hn.2 w)
  have SD := hidb (fun w => signedOf_any d d1 hd.2 w)
  have lx : n.natAbs ≤ 2 * lid := i64_lid n1 hn.2
  have ly : d.natAbs ≤ 2 * lid := i64_lid d1 hd.2
  have HR := hidb (fun w m k u v (a : Sg w m u n) (b : Sg w k v d) => reduced_any lx ly h0 a b hf)
  have HX := hidb (fun w => isRight_any p q w)
  have HY := hidb (fun w => isRight_any r s w)
  rw [decide_eq_true ha] at HX
  rw [decide_eq_true hb] at HY
  have KC := hidb (fun w => cmp_ok ha hb w)
  have KF := hidb (fun w => floor_ok ha w)
  have KN := hidb (fun w => near_ok ha w)
  have GF := hidb (fun w => floorOf_any p q ha.sml ha.1.1 ha.1.2.1 w)
  have GN := hidb (fun w => nearOf_any p q ha.sml ha.1.1 ha.1.2.1 w)
  have GC := hidb (fun w => cmpOf_any p q r s ha.sml ha.smd hb.sml hb.smd w)
  generalize ci (p * s) (r * q) = cc at *
  clear ha hb
  generalize p / q = fl at *
  generalize nea p q = ne at *
  have bf : (fl != fl) = false := by simp
  have bn : (ne != ne) = false := by simp
  clear lx ly hf hn hd hn' hd' n1 d1
  unfold frV at *
  generalize (if (decide (n < 0) != decide (d < 0)) = true then -((rn n.natAbs d.natAbs : Nat) : Int) else ((rn n.natAbs d.natAbs : Nat) : Int)) = v1 at *
  generalize ((rd n.natAbs d.natAbs : Nat) : Int) = v2 at *
  have b1 : (v1 != v1) = false := by simp
  have b2 : (v2 != v2) = false := by simp
  go_enter Tryd.func4, Tryd.ntmps4
  go_wp2_with fail
  refine (HM.out _).mono ?_
  rintro e w1 ⟨rfl, hB⟩
  have HC := Gr.step (((Gr.refl w).alloc (fc p q)).alloc (fc r s)) hB
  have PA := At.below hB ((At.new2 w (.int .i64 p) (.int .i64 q) 29).alloc (fc r s))
  have QA := At.below hB (At.nx2 (W := w) (fc p q) (.int .i64 r) (.int .i64 s) 29)
  clear hB
  go_wp2_with fail
  refine (HN.out _).mono ?_
  rintro e w2 ⟨rfl, rfl⟩
  go_wp2_with fail
  refine (HD.out _).mono ?_
  rintro e w3 ⟨rfl, rfl⟩
  clear HM HN HD
  go_wp2_with fail
  refine (HZ.out _).mono ?_
  rintro e w4 ⟨rfl, hB⟩
  replace HC := Gr.step HC hB
  replace PA := (At.below hB PA).alloc (fc v1 v2)
  replace QA := (At.below hB QA).alloc (fc v1 v2)
  clear hB HZ
  have FA := At.new2 w4 (.int .i64 v1) (.int .i64 v2) 29
  replace HC := HC.alloc (fc v1 v2)
  go_wp2_with fail
  refine (SN.out _).mono ?_
  rintro e w5 ⟨m1, u1, rfl, s1, hB, _⟩
  replace HC := Gr.step HC hB
  replace FA := At.below hB FA
  replace PA := At.below hB PA
  replace QA := At.below hB QA
  clear hB SN
  have S1 := hidb s1
  clear s1
  go_wp2_with fail
  refine (SD.out _).mono ?_
  rintro e w6 ⟨m2, u2, rfl, s2, hB, _⟩
  replace HC := Gr.step HC hB
  replace FA := At.below hB FA
  replace PA := At.below hB PA
  replace QA := At.below hB QA
  replace S1 := hidb (S1.out.below hB)
  have S2 := hidb s2
  clear hB SD s2
  go_wp2_with fail
  refine (HR.out _ _ _ _ _ S1.out S2.out).mono ?_
  rintro e w7 ⟨rfl, hB⟩
  replace HC := Gr.step HC hB
  replace FA := At.below hB FA
  replace PA := At.below hB PA
  replace QA := At.below hB QA
  clear hB HR S1 S2
  obtain ⟨f0, f1⟩ := FA.c2
  obtain ⟨p0, p1⟩ := PA.c2
  obtain ⟨q0, q1⟩ := QA.c2
  have l1 := FA.lt
  have l2 := PA.lt
  have l3 := QA.lt
  go_wp2_with fail
  refine (HX.out _).mono ?_
  rintro e w8 ⟨rfl, hB⟩
  replace HC := Gr.step (HC.alloc _) hB
  replace PA := At.below hB (PA.alloc _)
  replace QA := At.below hB (QA.alloc _)
  clear hB HX FA f0 f1 p0 p1 q0 q1 l1 l2 l3
  obtain ⟨p0, p1⟩ := PA.c2
  obtain ⟨q0, q1⟩ := QA.c2
  go_wp2_with fail
  refine (HY.out _).mono ?_
  rintro e w9 ⟨rfl, hB⟩
  replace HC := Gr.step HC hB
  replace PA := At.below hB PA
  replace QA := At.below hB QA
  clear hB HY p0 p1 q0 q1
  obtain ⟨p0, p1⟩ := PA.c2
  obtain ⟨q0, q1⟩ := QA.c2
  go_wp2_with fail
  refine (KC.out _).mono ?_
  rintro e w10 ⟨rfl, hB⟩
  replace HC := Gr.step HC hB
  replace PA := At.below hB PA
  replace QA := At.below hB QA
  clear hB KC p0 p1 q0 q1
  obtain ⟨p0, p1⟩ := PA.c2
  obtain ⟨q0, q1⟩ := QA.c2
  go_wp2_with fail
  refine (KF.out _).mono ?_
  rintro e w11 ⟨rfl, hB⟩
  replace HC := Gr.step HC hB
  replace PA := At.below hB PA
  replace QA := At.below hB QA
  clear hB KF p0 p1 q0 q1
  obtain ⟨p0, p1⟩ := PA.c2
  obtain ⟨q0, q1⟩ := QA.c2
  go_wp2_with fail
  refine (KN.out _).mono ?_
  rintro e w12 ⟨rfl, hB⟩
  replace HC := Gr.step HC hB
  replace PA := At.below hB PA
  replace QA := At.below hB QA
  clear hB KN p0 p1 q0 q1
  obtain ⟨p0, p1⟩ := PA.c2
  obtain ⟨q0, q1⟩ := QA.c2
  go_wp2_with fail
  refine (GF.out _).mono ?_
  rintro e w13 ⟨rfl, hB⟩
  replace HC := Gr.step HC hB
  replace PA := At.below hB PA
  replace QA := At.below hB QA
  clear hB GF p0 p1 q0 q1
  obtain ⟨p0, p1⟩ := PA.c2
  obtain ⟨q0, q1⟩ := QA.c2
  go_wp2_with fail
  refine (GN.out _).mono ?_
  rintro e w14 ⟨rfl, hB⟩
  replace HC := Gr.step HC hB
  replace PA := At.below hB PA
  replace QA := At.below hB QA
  clear hB GN p0 p1 q0 q1
  obtain ⟨p0, p1⟩ := PA.c2
  obtain ⟨q0, q1⟩ := QA.c2
  go_wp2_with fail
  refine (GC.out _).mono ?_
  rintro e w15 ⟨rfl, hB⟩
  replace HC := Gr.step HC hB
  clear hB
  go_wp2
  go_ret
  exact ⟨by simp, HC⟩
end Go.Proofs.YtgjjgicojedefaaDoor
