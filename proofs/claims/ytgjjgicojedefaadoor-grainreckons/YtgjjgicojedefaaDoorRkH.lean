/-
  mercatorref1.OfTwo, where a fraction is not right, or 0 divides; mercatorlaw1.GrainReckons: its walk.
-/
import Derived.Test.YtgjjgicojedefaaDoorRkG
import Derived.Test.YtgjjgicojedefaaDoorFrK
namespace Go.Proofs.YtgjjgicojedefaaDoor
open Go.RowKit BG
attribute [local go_sem ↓] Go.wp_at_zero Go.wp_at_succ

theorem of_no (an ad bn bd : Int) (how : Int) (x y : Bool) (hx : decide (Rgt an ad) = x) (hy : decide (Rgt bn bd) = y) (h : (x && y) = false) (w : World) : Calls Tryd.prog 25 #[.agg #[.int .i64 an, .int .i64 ad], .agg #[.int .i64 bn, .int .i64 bd], .int .u8 how] w fun e w' => e = .returned (.tuple #[fr0, .int .i64 3]) ∧ Below w.heap.size w w' := by
  have HX := hidb (fun w => isRight_any an ad w)
  have HY := hidb (fun w => isRight_any bn bd w)
  rw [hx] at HX
  rw [hy] at HY
  clear hx hy
  have HC : Gr w (((w.alloc (.cells #[.int .i64 an, .int .i64 ad] 29)).alloc (.cells #[.int .i64 bn, .int .i64 bd] 29)).alloc (.cells #[.int .i64 0, .int .i64 0] 29)) := (((Gr.refl w).alloc _).alloc _).alloc _
  have PA := ((At.new2 w (.int .i64 an) (.int .i64 ad) 29).alloc (.cells #[.int .i64 bn, .int .i64 bd] 29)).alloc (.cells #[.int .i64 0, .int .i64 0] 29)
  have QA := (At.nx2 (W := w) (.cells #[.int .i64 an, .int .i64 ad] 29) (.int .i64 bn) (.int .i64 bd) 29).alloc (.cells #[.int .i64 0, .int .i64 0] 29)
  have RA := At.ny2 (W := w) (.cells #[.int .i64 an, .int .i64 ad] 29) (.cells #[.int .i64 bn, .int .i64 bd] 29) (.int .i64 0) (.int .i64 0) 29
  have hge : w.heap.size ≤ w.heap.size + 1 + 1 := by omega
  go_enter Tryd.func25, Tryd.ntmps25
  go_wp2_with fail
  refine (HX.out _).mono ?_
  rintro e w1 ⟨rfl, hB⟩
  replace HC := Gr.step HC hB
  replace PA := At.below hB PA
  replace QA := At.below hB QA
  replace RA := At.below hB RA
  clear hB
  obtain ⟨q0, q1⟩ := QA.c2
  go_wp2_with fail
  refine (HY.out _).mono ?_
  rintro e w2 ⟨rfl, hB⟩
  replace HC := Gr.step HC hB
  replace PA := At.below hB PA
  replace QA := At.below hB QA
  replace RA := At.below hB RA
  clear hB
  clear q0 q1 HX HY
  obtain ⟨q0, q1⟩ := QA.c2
  obtain ⟨r0, r1⟩ := RA.c2
  obtain ⟨f0, f1⟩ := RA.f2
  cases x
  · cases y
    · go_wp2
      exact bodyPost_ret (v := .tuple #[fr0, .int .i64 3]) (by simp [results, Tryd.results25, go_sem, r0, r1]) rfl ⟨rfl, (HC.set hge _ _).set hge _ _⟩
    · go_wp2
      exact bodyPost_ret (v := .tuple #[fr0, .int .i64 3]) (by simp [results, Tryd.results25, go_sem, r0, r1]) rfl ⟨rfl, (HC.set hge _ _).set hge _ _⟩
  · cases y
    · go_wp2
      exact bodyPost_ret (v := .tuple #[fr0, .int .i64 3]) (by simp [results, Tryd.results25, go_sem, r0, r1]) rfl ⟨rfl, (HC.set hge _ _).set hge _ _⟩
    · cases h
theorem of_zero (an ad bn bd : Int) (ha : Rgt an ad) (hb : Rgt bn bd) (h : bn = 0) (w : World) : Calls Tryd.prog 25 #[.agg #[.int .i64 an, .int .i64 ad], .agg #[.int .i64 bn, .int .i64 bd], .int .u8 47] w fun e w' => e = .returned (.tuple #[fr0, .int .i64 3]) ∧ Below w.heap.size w w' := by
  have HX := hidb (fun w => isRight_any an ad w)
  have HY := hidb (fun w => isRight_any bn bd w)
  rw [decide_eq_true ha] at HX
  rw [decide_eq_true hb] at HY
  clear ha hb
  subst h
  have HC : Gr w (((w.alloc (.cells #[.int .i64 an, .int .i64 ad] 29)).alloc (.cells #[.int .i64 0, .int .i64 bd] 29)).alloc (.cells #[.int .i64 0, .int .i64 0] 29)) := (((Gr.refl w).alloc _).alloc _).alloc _
  have PA := ((At.new2 w (.int .i64 an) (.int .i64 ad) 29).alloc (.cells #[.int .i64 0, .int .i64 bd] 29)).alloc (.cells #[.int .i64 0, .int .i64 0] 29)
  have QA := (At.nx2 (W := w) (.cells #[.int .i64 an, .int .i64 ad] 29) (.int .i64 0) (.int .i64 bd) 29).alloc (.cells #[.int .i64 0, .int .i64 0] 29)
  have RA := At.ny2 (W := w) (.cells #[.int .i64 an, .int .i64 ad] 29) (.cells #[.int .i64 0, .int .i64 bd] 29) (.int .i64 0) (.int .i64 0) 29
  have hge : w.heap.size ≤ w.heap.size + 1 + 1 := by omega
  go_enter Tryd.func25, Tryd.ntmps25
  go_wp2_with fail
  refine (HX.out _).mono ?_
  rintro e w1 ⟨rfl, hB⟩
  replace HC := Gr.step HC hB
  replace PA := At.below hB PA
  replace QA := At.below hB QA
  replace RA := At.below hB RA
  clear hB
  obtain ⟨q0, q1⟩ := QA.c2
  go_wp2_with fail
  refine (HY.out _).mono ?_
  rintro e w2 ⟨rfl, hB⟩
  replace HC := Gr.step HC hB
  replace PA := At.below hB PA
  replace QA := At.below hB QA
  replace RA := At.below hB RA
  clear hB
  clear q0 q1 HX HY
  obtain ⟨q0, q1⟩ := QA.c2
  obtain ⟨r0, r1⟩ := RA.c2
  obtain ⟨f0, f1⟩ := RA.f2
  go_wp2
  exact bodyPost_ret (v := .tuple #[fr0, .int .i64 3]) (by simp [results, Tryd.results25, go_sem, r0, r1]) rfl ⟨rfl, (HC.set hge _ _).set hge _ _⟩
set_option maxRecDepth 4000 in
set_option maxHeartbeats 4000000 in
theorem rk_gen (an ad bn bd X1 Z1 X2 Z2 X3 Z3 X4 Z4 C1 C2 C3 C4 : Int) (E1 E2 E3 E4 : Value) (w : World)
    (A1 : ∀ w1 : World, Gr w w1 → Calls Tryd.prog 21 #[.agg #[.int .i64 an, .int .i64 ad], .agg #[.int .i64 bn, .int .i64 bd]] w1 fun e w' => e = .returned (.tuple #[.agg #[.int .i64 X1, .int .i64 Z1], E1]) ∧ Below w1.heap.size w1 w')
    (B1 : ∀ w1 : World, Calls Tryd.prog 25 #[.agg #[.int .i64 an, .int .i64 ad], .agg #[.int .i64 bn, .int .i64 bd], .int .u8 43] w1 fun e w' => e = .returned (.tuple #[.agg #[.int .i64 X1, .int .i64 Z1], .int .i64 C1]) ∧ Below w1.heap.size w1 w')
    (D1 : ∀ w1 : World, Gr w w1 → Calls Tryd.prog 8 #[E1, .int .i64 C1] w1 fun e w' => e = .returned (.bool true) ∧ Below w1.heap.size w1 w')
    (A2 : ∀ w1 : World, Gr w w1 → Calls Tryd.prog 22 #[.agg #[.int .i64 an, .int .i64 ad], .agg #[.int .i64 bn, .int .i64 bd]] w1 fun e w' => e = .returned (.tuple #[.agg #[.int .i64 X2, .int .i64 Z2], E2]) ∧ Below w1.heap.size w1 w')
    (B2 : ∀ w1 : World, Calls Tryd.prog 25 #[.agg #[.int .i64 an, .int .i64 ad], .agg #[.int .i64 bn, .int .i64 bd], .int .u8 45] w1 fun e w' => e = .returned (.tuple #[.agg #[.int .i64 X2, .int .i64 Z2], .int .i64 C2]) ∧ Below w1.heap.size w1 w')
    (D2 : ∀ w1 : World, Gr w w1 → Calls Tryd.prog 8 #[E2, .int .i64 C2] w1 fun e w' => e = .returned (.bool true) ∧ Below w1.heap.size w1 w')
    (A3 : ∀ w1 : World, Gr w w1 → Calls Tryd.prog 23 #[.agg #[.int .i64 an, .int .i64 ad], .agg #[.int .i64 bn, .int .i64 bd]] w1 fun e w' => e = .returned (.tuple #[.agg #[.int .i64 X3, .int .i64 Z3], E3]) ∧ Below w1.heap.size w1 w')
    (B3 : ∀ w1 : World, Calls Tryd.prog 25 #[.agg #[.int .i64 an, .int .i64 ad], .agg #[.int .i64 bn, .int .i64 bd], .int .u8 42] w1 fun e w' => e = .returned (.tuple #[.agg #[.int .i64 X3, .int .i64 Z3], .int .i64 C3]) ∧ Below w1.heap.size w1 w')
    (D3 : ∀ w1 : World, Gr w w1 → Calls Tryd.prog 8 #[E3, .int .i64 C3] w1 fun e w' => e = .returned (.bool true) ∧ Below w1.heap.size w1 w')
    (A4 : ∀ w1 : World, Gr w w1 → Calls Tryd.prog 24 #[.agg #[.int .i64 an, .int .i64 ad], .agg #[.int .i64 bn, .int .i64 bd]] w1 fun e w' => e = .returned (.tuple #[.agg #[.int .i64 X4, .int .i64 Z4], E4]) ∧ Below w1.heap.size w1 w')
    (B4 : ∀ w1 : World, Calls Tryd.prog 25 #[.agg #[.int .i64 an, .int .i64 ad], .agg #[.int .i64 bn, .int .i64 bd], .int .u8 47] w1 fun e w' => e = .returned (.tuple #[.agg #[.int .i64 X4, .int .i64 Z4], .int .i64 C4]) ∧ Below w1.heap.size w1 w')
    (D4 : ∀ w1 : World, Gr w w1 → Calls Tryd.prog 8 #[E4, .int .i64 C4] w1 fun e w' => e = .returned (.bool true) ∧ Below w1.heap.size w1 w') : Calls Tryd.prog 5 #[.agg #[.int .i64 an, .int .i64 ad], .agg #[.int .i64 bn, .int .i64 bd]] w fun e w' => e = .returned (.bool true) ∧ Below w.heap.size w w' := by
  have HM := hidb makes_any
  replace A1 := hidb A1
  replace B1 := hidb B1
  replace D1 := hidb D1
  have hx1 : (X1 == X1) = true := by simp
  have hz1 : (Z1 == Z1) = true := by simp
  replace A2 := hidb A2
  replace B2 := hidb B2
  replace D2 := hidb D2
  have hx2 : (X2 == X2) = true := by simp
  have hz2 : (Z2 == Z2) = true := by simp
  replace A3 := hidb A3
  replace B3 := hidb B3
  replace D3 := hidb D3
  have hx3 : (X3 == X3) = true := by simp
  have hz3 : (Z3 == Z3) = true := by simp
  replace A4 := hidb A4
  replace B4 := hidb B4
  replace D4 := hidb D4
  have hx4 : (X4 == X4) = true := by simp
  have hz4 : (Z4 == Z4) = true := by simp
  have HC : Gr w ((w.alloc (fc an ad)).alloc (fc bn bd)) := ((Gr.refl w).alloc _).alloc _
  have PA := (At.new2 w (.int .i64 an) (.int .i64 ad) 29).alloc (fc bn bd)
  have QA := At.nx2 (W := w) (fc an ad) (.int .i64 bn) (.int .i64 bd) 29
  go_enter Tryd.func5, Tryd.ntmps5
  go_wp2_with fail
  refine (HM.out _).mono ?_
  rintro e w0 ⟨rfl, hB⟩
  replace HC := Gr.step HC hB
  replace PA := At.below hB PA
  replace QA := At.below hB QA
  clear hB HM
  obtain ⟨PA0, PA1⟩ := PA.c2
  have PAl := PA.lt
  obtain ⟨QA0, QA1⟩ := QA.c2
  have QAl := QA.lt
  go_wp2_with fail
  refine (A1.out _ HC).mono ?_
  rintro e w1 ⟨rfl, hB⟩
  replace HC := Gr.step HC hB
  replace PA := At.below hB PA
  replace QA := At.below hB QA
  clear hB PA0 PA1 PAl QA0 QA1 QAl
  clear A1
  obtain ⟨PA0, PA1⟩ := PA.c2
  have PAl := PA.lt
  obtain ⟨QA0, QA1⟩ := QA.c2
  have QAl := QA.lt
  go_wp2_with fail
  refine (A2.out _ (HC.alloc _)).mono ?_
  rintro e w2 ⟨rfl, hB⟩
  replace HC := Gr.step (HC.alloc _) hB
  replace PA := At.below hB (PA.alloc _)
  replace QA := At.below hB (QA.alloc _)
  have F1 := At.below hB (At.new2 _ (.int .i64 X1) (.int .i64 Z1) 29)
  clear hB PA0 PA1 PAl QA0 QA1 QAl
  clear A2
  obtain ⟨PA0, PA1⟩ := PA.c2
  have PAl := PA.lt
  obtain ⟨QA0, QA1⟩ := QA.c2
  have QAl := QA.lt
  obtain ⟨F10, F11⟩ := F1.c2
  have F1l := F1.lt
  go_wp2_with fail
  refine (A3.out _ (HC.alloc _)).mono ?_
  rintro e w3 ⟨rfl, hB⟩
  replace HC := Gr.step (HC.alloc _) hB
  replace PA := At.below hB (PA.alloc _)
  replace QA := At.below hB (QA.alloc _)
  replace F1 := At.below hB (F1.alloc _)
  have F2 := At.below hB (At.new2 _ (.int .i64 X2) (.int .i64 Z2) 29)
  clear hB PA0 PA1 PAl QA0 QA1 QAl F10 F11 F1l
  clear A3
  obtain ⟨PA0, PA1⟩ := PA.c2
  have PAl := PA.lt
  obtain ⟨QA0, QA1⟩ := QA.c2
  have QAl := QA.lt
  obtain ⟨F10, F11⟩ := F1.c2
  have F1l := F1.lt
  obtain ⟨F20, F21⟩ := F2.c2
  have F2l := F2.lt
  go_wp2_with fail
  refine (A4.out _ (HC.alloc _)).mono ?_
  rintro e w4 ⟨rfl, hB⟩
  replace HC := Gr.step (HC.alloc _) hB
  replace PA := At.below hB (PA.alloc _)
  replace QA := At.below hB (QA.alloc _)
  replace F1 := At.below hB (F1.alloc _)
  replace F2 := At.below hB (F2.alloc _)
  have F3 := At.below hB (At.new2 _ (.int .i64 X3) (.int .i64 Z3) 29)
  clear hB PA0 PA1 PAl QA0 QA1 QAl F10 F11 F1l F20 F21 F2l
  clear A4
  obtain ⟨PA0, PA1⟩ := PA.c2
  have PAl := PA.lt
  obtain ⟨QA0, QA1⟩ := QA.c2
  have QAl := QA.lt
  obtain ⟨F10, F11⟩ := F1.c2
  have F1l := F1.lt
  obtain ⟨F20, F21⟩ := F2.c2
  have F2l := F2.lt
  obtain ⟨F30, F31⟩ := F3.c2
  have F3l := F3.lt
  go_wp2_with fail
  refine (B1.out _).mono ?_
  rintro e w5 ⟨rfl, hB⟩
  replace HC := Gr.step (HC.alloc _) hB
  replace PA := At.below hB (PA.alloc _)
  replace QA := At.below hB (QA.alloc _)
  replace F1 := At.below hB (F1.alloc _)
  replace F2 := At.below hB (F2.alloc _)
  replace F3 := At.below hB (F3.alloc _)
  have F4 := At.below hB (At.new2 _ (.int .i64 X4) (.int .i64 Z4) 29)
  clear hB PA0 PA1 PAl QA0 QA1 QAl F10 F11 F1l F20 F21 F2l F30 F31 F3l
  clear B1
  obtain ⟨PA0, PA1⟩ := PA.c2
  have PAl := PA.lt
  obtain ⟨QA0, QA1⟩ := QA.c2
  have QAl := QA.lt
  obtain ⟨F10, F11⟩ := F1.c2
  have F1l := F1.lt
  obtain ⟨F20, F21⟩ := F2.c2
  have F2l := F2.lt
  obtain ⟨F30, F31⟩ := F3.c2
  have F3l := F3.lt
  obtain ⟨F40, F41⟩ := F4.c2
  have F4l := F4.lt
  go_wp2_with fail
  refine (B2.out _).mono ?_
  rintro e w6 ⟨rfl, hB⟩
  replace HC := Gr.step (HC.alloc _) hB
  replace PA := At.below hB (PA.alloc _)
  replace QA := At.below hB (QA.alloc _)
  replace F1 := At.below hB (F1.alloc _)
  replace F2 := At.below hB (F2.alloc _)
  replace F3 := At.below hB (F3.alloc _)
  replace F4 := At.below hB (F4.alloc _)
  have T1 := At.below hB (At.new2 _ (.int .i64 X1) (.int .i64 Z1) 29)
  clear hB PA0 PA1 PAl QA0 QA1 QAl F10 F11 F1l F20 F21 F2l F30 F31 F3l F40 F41 F4l
  clear B2
  obtain ⟨PA0, PA1⟩ := PA.c2
  have PAl := PA.lt
  obtain ⟨QA0, QA1⟩ := QA.c2
  have QAl := QA.lt
  obtain ⟨F10, F11⟩ := F1.c2
  have F1l := F1.lt
  obtain ⟨F20, F21⟩ := F2.c2
  have F2l := F2.lt
  obtain ⟨F30, F31⟩ := F3.c2
  have F3l := F3.lt
  obtain ⟨F40, F41⟩ := F4.c2
  have F4l := F4.lt
  obtain ⟨T10, T11⟩ := T1.c2
  have T1l := T1.lt
  go_wp2_with fail
  refine (B3.out _).mono ?_
  rintro e w7 ⟨rfl, hB⟩
  replace HC := Gr.step (HC.alloc _) hB
  replace PA := At.below hB (PA.alloc _)
  replace QA := At.below hB (QA.alloc _)
  replace F1 := At.below hB (F1.alloc _)
  replace F2 := At.below hB (F2.alloc _)
  replace F3 := At.below hB (F3.alloc _)
  replace F4 := At.below hB (F4.alloc _)
  replace T1 := At.below hB (T1.alloc _)
  have T2 := At.below hB (At.new2 _ (.int .i64 X2) (.int .i64 Z2) 29)
  clear hB PA0 PA1 PAl QA0 QA1 QAl F10 F11 F1l F20 F21 F2l F30 F31 F3l F40 F41 F4l T10 T11 T1l
  clear B3
  obtain ⟨PA0, PA1⟩ := PA.c2
  have PAl := PA.lt
  obtain ⟨QA0, QA1⟩ := QA.c2
  have QAl := QA.lt
  obtain ⟨F10, F11⟩ := F1.c2
  have F1l := F1.lt
  obtain ⟨F20, F21⟩ := F2.c2
  have F2l := F2.lt
  obtain ⟨F30, F31⟩ := F3.c2
  have F3l := F3.lt
  obtain ⟨F40, F41⟩ := F4.c2
  have F4l := F4.lt
  obtain ⟨T10, T11⟩ := T1.c2
  have T1l := T1.lt
  obtain ⟨T20, T21⟩ := T2.c2
  have T2l := T2.lt
  go_wp2_with fail
  refine (B4.out _).mono ?_
  rintro e w8 ⟨rfl, hB⟩
  replace HC := Gr.step (HC.alloc _) hB
  replace PA := At.below hB (PA.alloc _)
  replace QA := At.below hB (QA.alloc _)
  replace F1 := At.below hB (F1.alloc _)
  replace F2 := At.below hB (F2.alloc _)
  replace F3 := At.below hB (F3.alloc _)
  replace F4 := At.below hB (F4.alloc _)
  replace T1 := At.below hB (T1.alloc _)
  replace T2 := At.below hB (T2.alloc _)
  have T3 := At.below hB (At.new2 _ (.int .i64 X3) (.int .i64 Z3) 29)
  clear hB PA0 PA1 PAl QA0 QA1 QAl F10 F11 F1l F20 F21 F2l F30 F31 F3l F40 F41 F4l T10 T11 T1l T20 T21 T2l
  clear B4
  obtain ⟨PA0, PA1⟩ := PA.c2
  have PAl := PA.lt
  obtain ⟨QA0, QA1⟩ := QA.c2
  have QAl := QA.lt
  obtain ⟨F10, F11⟩ := F1.c2
  have F1l := F1.lt
  obtain ⟨F20, F21⟩ := F2.c2
  have F2l := F2.lt
  obtain ⟨F30, F31⟩ := F3.c2
  have F3l := F3.lt
  obtain ⟨F40, F41⟩ := F4.c2
  have F4l := F4.lt
  obtain ⟨T10, T11⟩ := T1.c2
  have T1l := T1.lt
  obtain ⟨T20, T21⟩ := T2.c2
  have T2l := T2.lt
  obtain ⟨T30, T31⟩ := T3.c2
  have T3l := T3.lt
  go_wp2_with fail
  refine (D1.out _ (HC.alloc _)).mono ?_
  rintro e w9 ⟨rfl, hB⟩
  replace HC := Gr.step (HC.alloc _) hB
  replace PA := At.below hB (PA.alloc _)
  replace QA := At.below hB (QA.alloc _)
  replace F1 := At.below hB (F1.alloc _)
  replace F2 := At.below hB (F2.alloc _)
  replace F3 := At.below hB (F3.alloc _)
  replace F4 := At.below hB (F4.alloc _)
  replace T1 := At.below hB (T1.alloc _)
  replace T2 := At.below hB (T2.alloc _)
  replace T3 := At.below hB (T3.alloc _)
  have T4 := At.below hB (At.new2 _ (.int .i64 X4) (.int .i64 Z4) 29)
  clear hB PA0 PA1 PAl QA0 QA1 QAl F10 F11 F1l F20 F21 F2l F30 F31 F3l F40 F41 F4l T10 T11 T1l T20 T21 T2l T30 T31 T3l
  clear D1
  obtain ⟨PA0, PA1⟩ := PA.c2
  have PAl := PA.lt
  obtain ⟨QA0, QA1⟩ := QA.c2
  have QAl := QA.lt
  obtain ⟨F10, F11⟩ := F1.c2
  have F1l := F1.lt
  obtain ⟨F20, F21⟩ := F2.c2
  have F2l := F2.lt
  obtain ⟨F30, F31⟩ := F3.c2
  have F3l := F3.lt
  obtain ⟨F40, F41⟩ := F4.c2
  have F4l := F4.lt
  obtain ⟨T10, T11⟩ := T1.c2
  have T1l := T1.lt
  obtain ⟨T20, T21⟩ := T2.c2
  have T2l := T2.lt
  obtain ⟨T30, T31⟩ := T3.c2
  have T3l := T3.lt
  obtain ⟨T40, T41⟩ := T4.c2
  have T4l := T4.lt
  go_wp2_with fail
  refine (D2.out _ HC).mono ?_
  rintro e w10 ⟨rfl, hB⟩
  replace HC := Gr.step HC hB
  replace PA := At.below hB PA
  replace QA := At.below hB QA
  replace F1 := At.below hB F1
  replace F2 := At.below hB F2
  replace F3 := At.below hB F3
  replace F4 := At.below hB F4
  replace T1 := At.below hB T1
  replace T2 := At.below hB T2
  replace T3 := At.below hB T3
  replace T4 := At.below hB T4
  clear hB PA0 PA1 PAl QA0 QA1 QAl F10 F11 F1l F20 F21 F2l F30 F31 F3l F40 F41 F4l T10 T11 T1l T20 T21 T2l T30 T31 T3l T40 T41 T4l
  clear D2
  obtain ⟨PA0, PA1⟩ := PA.c2
  have PAl := PA.lt
  obtain ⟨QA0, QA1⟩ := QA.c2
  have QAl := QA.lt
  obtain ⟨F10, F11⟩ := F1.c2
  have F1l := F1.lt
  obtain ⟨F20, F21⟩ := F2.c2
  have F2l := F2.lt
  obtain ⟨F30, F31⟩ := F3.c2
  have F3l := F3.lt
  obtain ⟨F40, F41⟩ := F4.c2
  have F4l := F4.lt
  obtain ⟨T10, T11⟩ := T1.c2
  have T1l := T1.lt
  obtain ⟨T20, T21⟩ := T2.c2
  have T2l := T2.lt
  obtain ⟨T30, T31⟩ := T3.c2
  have T3l := T3.lt
  obtain ⟨T40, T41⟩ := T4.c2
  have T4l := T4.lt
  go_wp2_with fail
  refine (D3.out _ HC).mono ?_
  rintro e w11 ⟨rfl, hB⟩
  replace HC := Gr.step HC hB
  replace PA := At.below hB PA
  replace QA := At.below hB QA
  replace F1 := At.below hB F1
  replace F2 := At.below hB F2
  replace F3 := At.below hB F3
  replace F4 := At.below hB F4
  replace T1 := At.below hB T1
  replace T2 := At.below hB T2
  replace T3 := At.below hB T3
  replace T4 := At.below hB T4
  clear hB PA0 PA1 PAl QA0 QA1 QAl F10 F11 F1l F20 F21 F2l F30 F31 F3l F40 F41 F4l T10 T11 T1l T20 T21 T2l T30 T31 T3l T40 T41 T4l
  clear D3
  obtain ⟨PA0, PA1⟩ := PA.c2
  have PAl := PA.lt
  obtain ⟨QA0, QA1⟩ := QA.c2
  have QAl := QA.lt
  obtain ⟨F10, F11⟩ := F1.c2
  have F1l := F1.lt
  obtain ⟨F20, F21⟩ := F2.c2
  have F2l := F2.lt
  obtain ⟨F30, F31⟩ := F3.c2
  have F3l := F3.lt
  obtain ⟨F40, F41⟩ := F4.c2
  have F4l := F4.lt
  obtain ⟨T10, T11⟩ := T1.c2
  have T1l := T1.lt
  obtain ⟨T20, T21⟩ := T2.c2
  have T2l := T2.lt
  obtain ⟨T30, T31⟩ := T3.c2
  have T3l := T3.lt
  obtain ⟨T40, T41⟩ := T4.c2
  have T4l := T4.lt
  go_wp2_with fail
  refine (D4.out _ HC).mono ?_
  rintro e w12 ⟨rfl, hB⟩
  replace HC := Gr.step HC hB
  replace PA := At.below hB PA
  replace QA := At.below hB QA
  replace F1 := At.below hB F1
  replace F2 := At.below hB F2
  replace F3 := At.below hB F3
  replace F4 := At.below hB F4
  replace T1 := At.below hB T1
  replace T2 := At.below hB T2
  replace T3 := At.below hB T3
  replace T4 := At.below hB T4
  clear hB PA0 PA1 PAl QA0 QA1 QAl F10 F11 F1l F20 F21 F2l F30 F31 F3l F40 F41 F4l T10 T11 T1l T20 T21 T2l T30 T31 T3l T40 T41 T4l
  clear D4
  obtain ⟨PA0, PA1⟩ := PA.c2
  have PAl := PA.lt
  obtain ⟨QA0, QA1⟩ := QA.c2
  have QAl := QA.lt
  obtain ⟨F10, F11⟩ := F1.c2
  have F1l := F1.lt
  obtain ⟨F20, F21⟩ := F2.c2
  have F2l := F2.lt
  obtain ⟨F30, F31⟩ := F3.c2
  have F3l := F3.lt
  obtain ⟨F40, F41⟩ := F4.c2
  have F4l := F4.lt
  obtain ⟨T10, T11⟩ := T1.c2
  have T1l := T1.lt
  obtain ⟨T20, T21⟩ := T2.c2
  have T2l := T2.lt
  obtain ⟨T30, T31⟩ := T3.c2
  have T3l := T3.lt
  obtain ⟨T40, T41⟩ := T4.c2
  have T4l := T4.lt
  go_wp2
  go_ret
  exact ⟨by simp, HC⟩
end Go.Proofs.YtgjjgicojedefaaDoor
