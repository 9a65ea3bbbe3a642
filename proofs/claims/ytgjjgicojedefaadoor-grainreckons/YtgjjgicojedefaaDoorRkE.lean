/-
  mercatorref1.OfTwo by /.
-/
import Derived.Test.YtgjjgicojedefaaDoorRkD
namespace Go.Proofs.YtgjjgicojedefaaDoor
open Go.RowKit BG
attribute [local go_sem ↓] Go.wp_at_zero Go.wp_at_succ

set_option maxRecDepth 4000 in
set_option maxHeartbeats 8000000 in
theorem of_div (an ad bn bd : Int) (ha : Rgt an ad) (hb : Rgt bn bd) (h0 : ¬ bn = 0) (w : World) : Calls Tryd.prog 25 #[.agg #[.int .i64 an, .int .i64 ad], .agg #[.int .i64 bn, .int .i64 bd], .int .u8 47] w fun e w' => e = .returned (.tuple #[.agg #[.int .i64 (qx (an * bd) (ad * bn)), .int .i64 (qy (an * bd) (ad * bn))], .int .i64 (qc (an * bd) (ad * bn))]) ∧ Below w.heap.size w w' := by
  have HX := hidb (fun w => isRight_any an ad w)
  have HY := hidb (fun w => isRight_any bn bd w)
  rw [decide_eq_true ha] at HX
  rw [decide_eq_true hb] at HY
  have sa := ha.sml
  have sd := ha.smd
  have ta := hb.sml
  have td := hb.smd
  have N1 := hidb (fun w => ofS an sa w)
  have N2 := hidb (fun w => ofS ad sd w)
  have N3 := hidb (fun w => ofS bn ta w)
  have N4 := hidb (fun w => ofS bd td w)
  have da := ha.1.1
  have db := hb.1.1
  have hD : ¬ ad * bn = 0 := Int.mul_ne_zero (by omega) h0
  have HR := hidb (fun w o t o' t' (a : Sg w o t (an * bd)) (b : Sg w o' t' (ad * bn)) => reduced_all (x := an * bd) (y := ad * bn) (lid_2 (sml_lid sa td)) (lid_2 (sml_lid sd ta)) hD a b)
  have HQ : Hid (qf (an * bd) (ad * bn) = false → qx (an * bd) (ad * bn) = 0 ∧ qy (an * bd) (ad * bn) = 0) := q_none _ _
  have HQC : Hid (qc (an * bd) (ad * bn) = if qf (an * bd) (ad * bn) then 0 else 2) := show _ = _ from rfl
  have M13 := hidb (fun w {m n : Bool} {u v : Value} (h : Sg w m u an) (k : Sg w n v bn) => mulS h k sa ta)
  have M24 := hidb (fun w {m n : Bool} {u v : Value} (h : Sg w m u ad) (k : Sg w n v bd) => mulS h k sd td)
  have M14 := hidb (fun w {m n : Bool} {u v : Value} (h : Sg w m u an) (k : Sg w n v bd) => mulS h k sa td)
  have M23 := hidb (fun w {m n : Bool} {u v : Value} (h : Sg w m u ad) (k : Sg w n v bn) => mulS h k sd ta)
  clear ha hb da db hD sa sd ta td
  generalize qx (an * bd) (ad * bn) = X at *
  generalize qy (an * bd) (ad * bn) = Z at *
  generalize qf (an * bd) (ad * bn) = F at *
  generalize qc (an * bd) (ad * bn) = cc at *
  have HC : Gr w (((w.alloc (.cells #[.int .i64 an, .int .i64 ad] 29)).alloc (.cells #[.int .i64 bn, .int .i64 bd] 29)).alloc (.cells #[.int .i64 0, .int .i64 0] 29)) := (((Gr.refl w).alloc _).alloc _).alloc _
  have PA := ((At.new2 w (.int .i64 an) (.int .i64 ad) 29).alloc (.cells #[.int .i64 bn, .int .i64 bd] 29)).alloc (.cells #[.int .i64 0, .int .i64 0] 29)
  have QA := (At.nx2 (W := w) (.cells #[.int .i64 an, .int .i64 ad] 29) (.int .i64 bn) (.int .i64 bd) 29).alloc (.cells #[.int .i64 0, .int .i64 0] 29)
  have RA := At.ny2 (W := w) (.cells #[.int .i64 an, .int .i64 ad] 29) (.cells #[.int .i64 bn, .int .i64 bd] 29) (.int .i64 0) (.int .i64 0) 29
  have hge : w.heap.size ≤ w.heap.size + 1 + 1 := by omega
  go_enter Tryd.func25, Tryd.ntmps25
  go_wp2_with fail
  refine (HX.out _).mono ?_
  rintro e w1 ⟨rfl, hB⟩
  replace HC := Gr.step HC hB
  replace PA := At.below hB PA
  replace QA := At.below hB QA
  replace RA := At.below hB RA
  clear hB
  clear HX
  obtain ⟨PA0, PA1⟩ := PA.c2
  have PAl := PA.lt
  obtain ⟨QA0, QA1⟩ := QA.c2
  have QAl := QA.lt
  go_wp2_with fail
  refine (HY.out _).mono ?_
  rintro e w2 ⟨rfl, hB⟩
  replace HC := Gr.step HC hB
  replace PA := At.below hB PA
  replace QA := At.below hB QA
  replace RA := At.below hB RA
  clear hB
  clear PA0 PA1 PAl QA0 QA1 QAl
  clear HY
  obtain ⟨PA0, PA1⟩ := PA.c2
  have PAl := PA.lt
  obtain ⟨QA0, QA1⟩ := QA.c2
  have QAl := QA.lt
  go_wp2_with fail
  refine (N1.out _).mono ?_
  rintro e w3 ⟨m1, u1, rfl, G1, hB, _⟩
  obtain ⟨c1, k1, hf⟩ := G1.1.form
  subst hf
  generalize List.length _ = n1 at G1 ⊢
  replace HC := Gr.step HC hB
  replace PA := At.below hB PA
  replace QA := At.below hB QA
  replace RA := At.below hB RA
  clear hB
  clear PA0 PA1 PAl QA0 QA1 QAl
  clear N1
  obtain ⟨PA0, PA1⟩ := PA.c2
  have PAl := PA.lt
  obtain ⟨QA0, QA1⟩ := QA.c2
  have QAl := QA.lt
  go_wp2_with fail
  refine (N2.out _).mono ?_
  rintro e w4 ⟨m2, u2, rfl, G2, hB, _⟩
  obtain ⟨c2, k2, hf⟩ := G2.1.form
  subst hf
  generalize List.length _ = n2 at G2 ⊢
  replace HC := Gr.step (HC.alloc _) hB
  replace PA := At.below hB (PA.alloc _)
  replace QA := At.below hB (QA.alloc _)
  replace RA := At.below hB (RA.alloc _)
  have S10 := At.below hB (At.new2 _ (.bool m1) (.slice c1 n1 k1) 38)
  replace G1 := Sg.step hB (G1.alloc _)
  clear hB
  clear PA0 PA1 PAl QA0 QA1 QAl
  clear N2
  obtain ⟨PA0, PA1⟩ := PA.c2
  have PAl := PA.lt
  obtain ⟨QA0, QA1⟩ := QA.c2
  have QAl := QA.lt
  obtain ⟨S100, S101⟩ := S10.c2
  have S10l := S10.lt
  go_wp2_with fail
  refine (N3.out _).mono ?_
  rintro e w5 ⟨m3, u3, rfl, G3, hB, _⟩
  obtain ⟨c3, k3, hf⟩ := G3.1.form
  subst hf
  generalize List.length _ = n3 at G3 ⊢
  replace HC := Gr.step (HC.alloc _) hB
  replace PA := At.below hB (PA.alloc _)
  replace QA := At.below hB (QA.alloc _)
  replace RA := At.below hB (RA.alloc _)
  replace S10 := At.below hB (S10.alloc _)
  have S11 := At.below hB (At.new2 _ (.bool m2) (.slice c2 n2 k2) 38)
  replace G1 := Sg.step hB (G1.alloc _)
  replace G2 := Sg.step hB (G2.alloc _)
  clear hB
  clear PA0 PA1 PAl QA0 QA1 QAl S100 S101 S10l
  clear N3
  obtain ⟨PA0, PA1⟩ := PA.c2
  have PAl := PA.lt
  obtain ⟨QA0, QA1⟩ := QA.c2
  have QAl := QA.lt
  obtain ⟨S100, S101⟩ := S10.c2
  have S10l := S10.lt
  obtain ⟨S110, S111⟩ := S11.c2
  have S11l := S11.lt
  go_wp2_with fail
  refine (N4.out _).mono ?_
  rintro e w6 ⟨m4, u4, rfl, G4, hB, _⟩
  obtain ⟨c4, k4, hf⟩ := G4.1.form
  subst hf
  generalize List.length _ = n4 at G4 ⊢
  replace HC := Gr.step (HC.alloc _) hB
  replace PA := At.below hB (PA.alloc _)
  replace QA := At.below hB (QA.alloc _)
  replace RA := At.below hB (RA.alloc _)
  replace S10 := At.below hB (S10.alloc _)
  replace S11 := At.below hB (S11.alloc _)
  have S12 := At.below hB (At.new2 _ (.bool m3) (.slice c3 n3 k3) 38)
  replace G1 := Sg.step hB (G1.alloc _)
  replace G2 := Sg.step hB (G2.alloc _)
  replace G3 := Sg.step hB (G3.alloc _)
  clear hB
  clear PA0 PA1 PAl QA0 QA1 QAl S100 S101 S10l S110 S111 S11l
  clear N4
  obtain ⟨PA0, PA1⟩ := PA.c2
  have PAl := PA.lt
  obtain ⟨QA0, QA1⟩ := QA.c2
  have QAl := QA.lt
  obtain ⟨S100, S101⟩ := S10.c2
  have S10l := S10.lt
  obtain ⟨S110, S111⟩ := S11.c2
  have S11l := S11.lt
  obtain ⟨S120, S121⟩ := S12.c2
  have S12l := S12.lt
  go_wp2_with fail
  refine (M13.out _ (Sg.alloc G1 _) (Sg.alloc G3 _)).mono ?_
  rintro e w7 ⟨m5, u5, rfl, G5, hB, _⟩
  obtain ⟨c5, k5, hf⟩ := G5.1.form
  subst hf
  generalize List.length _ = n5 at G5 ⊢
  replace HC := Gr.step (HC.alloc _) hB
  replace PA := At.below hB (PA.alloc _)
  replace QA := At.below hB (QA.alloc _)
  replace RA := At.below hB (RA.alloc _)
  replace S10 := At.below hB (S10.alloc _)
  replace S11 := At.below hB (S11.alloc _)
  replace S12 := At.below hB (S12.alloc _)
  have S13 := At.below hB (At.new2 _ (.bool m4) (.slice c4 n4 k4) 38)
  replace G1 := Sg.step hB (G1.alloc _)
  replace G2 := Sg.step hB (G2.alloc _)
  replace G3 := Sg.step hB (G3.alloc _)
  replace G4 := Sg.step hB (G4.alloc _)
  clear hB
  clear PA0 PA1 PAl QA0 QA1 QAl S100 S101 S10l S110 S111 S11l S120 S121 S12l
  have PAe7 := PA.lt
  have QAe7 := QA.lt
  have RAe7 := RA.lt
  have S10e7 := S10.lt
  have S11e7 := S11.lt
  have S12e7 := S12.lt
  have S13e7 := S13.lt
  obtain ⟨S100, S101⟩ := S10.c2
  have S10l := S10.lt
  obtain ⟨S110, S111⟩ := S11.c2
  have S11l := S11.lt
  obtain ⟨S120, S121⟩ := S12.c2
  have S12l := S12.lt
  obtain ⟨S130, S131⟩ := S13.c2
  have S13l := S13.lt
  go_wp2_with fail
  refine (M24.out _ (Sg.alloc G2 _) (Sg.alloc G4 _)).mono ?_
  rintro e w8 ⟨m6, u6, rfl, G6, hB, _⟩
  obtain ⟨c6, k6, hf⟩ := G6.1.form
  subst hf
  generalize List.length _ = n6 at G6 ⊢
  replace HC := Gr.step (HC.alloc _) hB
  replace PA := At.below hB (PA.alloc _)
  replace QA := At.below hB (QA.alloc _)
  replace RA := At.below hB (RA.alloc _)
  replace S10 := At.below hB (S10.alloc _)
  replace S11 := At.below hB (S11.alloc _)
  replace S12 := At.below hB (S12.alloc _)
  replace S13 := At.below hB (S13.alloc _)
  have S14 := At.below hB (At.new2 _ (.bool m5) (.slice c5 n5 k5) 38)
  replace G1 := Sg.step hB (G1.alloc _)
  replace G2 := Sg.step hB (G2.alloc _)
  replace G3 := Sg.step hB (G3.alloc _)
  replace G4 := Sg.step hB (G4.alloc _)
  replace G5 := Sg.step hB (G5.alloc _)
  clear hB
  clear S100 S101 S10l S110 S111 S11l S120 S121 S12l S130 S131 S13l
  have PAe8 := PA.lt
  have QAe8 := QA.lt
  have RAe8 := RA.lt
  have S10e8 := S10.lt
  have S11e8 := S11.lt
  have S12e8 := S12.lt
  have S13e8 := S13.lt
  have S14e8 := S14.lt
  obtain ⟨S100, S101⟩ := S10.c2
  have S10l := S10.lt
  obtain ⟨S110, S111⟩ := S11.c2
  have S11l := S11.lt
  obtain ⟨S120, S121⟩ := S12.c2
  have S12l := S12.lt
  obtain ⟨S130, S131⟩ := S13.c2
  have S13l := S13.lt
  obtain ⟨S140, S141⟩ := S14.c2
  have S14l := S14.lt
  go_wp2_with fail
  refine (M14.out _ (Sg.alloc G1 _) (Sg.alloc G4 _)).mono ?_
  rintro e w9 ⟨m7, u7, rfl, G7, hB, _⟩
  obtain ⟨c7, k7, hf⟩ := G7.1.form
  subst hf
  generalize List.length _ = n7 at G7 ⊢
  replace HC := Gr.step (HC.alloc _) hB
  replace PA := At.below hB (PA.alloc _)
  replace QA := At.below hB (QA.alloc _)
  replace RA := At.below hB (RA.alloc _)
  replace S10 := At.below hB (S10.alloc _)
  replace S11 := At.below hB (S11.alloc _)
  replace S12 := At.below hB (S12.alloc _)
  replace S13 := At.below hB (S13.alloc _)
  replace S14 := At.below hB (S14.alloc _)
  have S15 := At.below hB (At.new2 _ (.bool m6) (.slice c6 n6 k6) 38)
  replace G1 := Sg.step hB (G1.alloc _)
  replace G2 := Sg.step hB (G2.alloc _)
  replace G3 := Sg.step hB (G3.alloc _)
  replace G4 := Sg.step hB (G4.alloc _)
  replace G5 := Sg.step hB (G5.alloc _)
  replace G6 := Sg.step hB (G6.alloc _)
  clear hB
  clear S100 S101 S10l S110 S111 S11l S120 S121 S12l S130 S131 S13l S140 S141 S14l
  obtain ⟨a0, a1⟩ := S14.c2
  obtain ⟨b0, b1⟩ := S14.f2
  go_upto_region 18 with fail
  clear a0 a1 b0 b1
  have hga : w.heap.size ≤ w7.heap.size := by omega
  replace HC := (HC.set hga 0 (.bool m7)).set hga 1 (.slice c7 n7 k7)
  replace G1 := Sg.set2 (k' := m7) G1 S14 (.slice c7 n7 k7)
  replace G2 := Sg.set2 (k' := m7) G2 S14 (.slice c7 n7 k7)
  replace G3 := Sg.set2 (k' := m7) G3 S14 (.slice c7 n7 k7)
  replace G4 := Sg.set2 (k' := m7) G4 S14 (.slice c7 n7 k7)
  replace G5 := Sg.set2 (k' := m7) G5 S14 (.slice c7 n7 k7)
  replace G6 := Sg.set2 (k' := m7) G6 S14 (.slice c7 n7 k7)
  replace G7 := Sg.set2 (k' := m7) G7 S14 (.slice c7 n7 k7)
  replace PA := (PA.skip (c := w7.heap.size) (by omega) 0 (.bool m7)).skip (c := w7.heap.size) (by omega) 1 (.slice c7 n7 k7)
  replace QA := (QA.skip (c := w7.heap.size) (by omega) 0 (.bool m7)).skip (c := w7.heap.size) (by omega) 1 (.slice c7 n7 k7)
  replace RA := (RA.skip (c := w7.heap.size) (by omega) 0 (.bool m7)).skip (c := w7.heap.size) (by omega) 1 (.slice c7 n7 k7)
  replace S10 := (S10.skip (c := w7.heap.size) (by omega) 0 (.bool m7)).skip (c := w7.heap.size) (by omega) 1 (.slice c7 n7 k7)
  replace S11 := (S11.skip (c := w7.heap.size) (by omega) 0 (.bool m7)).skip (c := w7.heap.size) (by omega) 1 (.slice c7 n7 k7)
  replace S12 := (S12.skip (c := w7.heap.size) (by omega) 0 (.bool m7)).skip (c := w7.heap.size) (by omega) 1 (.slice c7 n7 k7)
  replace S13 := (S13.skip (c := w7.heap.size) (by omega) 0 (.bool m7)).skip (c := w7.heap.size) (by omega) 1 (.slice c7 n7 k7)
  replace S15 := (S15.skip (c := w7.heap.size) (by omega) 0 (.bool m7)).skip (c := w7.heap.size) (by omega) 1 (.slice c7 n7 k7)
  replace S14 := At.fill2 (S14.has rfl) (.bool m7) (.slice c7 n7 k7)
  generalize (w9.setCell ⟨w7.heap.size, 0, none⟩ (.bool m7)).setCell ⟨w7.heap.size, 1, none⟩ (.slice c7 n7 k7) = w9' at *
  obtain ⟨S110, S111⟩ := S11.c2
  have S11l := S11.lt
  obtain ⟨S120, S121⟩ := S12.c2
  have S12l := S12.lt
  go_wp2_with fail
  refine (M23.out _ G2 G3).mono ?_
  rintro e w10 ⟨m8, u8, rfl, G8, hB, _⟩
  obtain ⟨c8, k8, hf⟩ := G8.1.form
  subst hf
  generalize List.length _ = n8 at G8 ⊢
  replace HC := Gr.step HC hB
  replace PA := At.below hB PA
  replace QA := At.below hB QA
  replace RA := At.below hB RA
  replace S10 := At.below hB S10
  replace S11 := At.below hB S11
  replace S12 := At.below hB S12
  replace S13 := At.below hB S13
  replace S14 := At.below hB S14
  replace S15 := At.below hB S15
  replace G1 := Sg.step hB G1
  replace G2 := Sg.step hB G2
  replace G3 := Sg.step hB G3
  replace G4 := Sg.step hB G4
  replace G5 := Sg.step hB G5
  replace G6 := Sg.step hB G6
  replace G7 := Sg.step hB G7
  clear hB
  clear S110 S111 S11l S120 S121 S12l
  obtain ⟨a0, a1⟩ := S15.c2
  obtain ⟨b0, b1⟩ := S15.f2
  go_upto_region 19 with fail
  clear a0 a1 b0 b1
  have hgb : w.heap.size ≤ w8.heap.size := by omega
  replace HC := (HC.set hgb 0 (.bool m8)).set hgb 1 (.slice c8 n8 k8)
  replace G1 := Sg.set2 (k' := m8) G1 S15 (.slice c8 n8 k8)
  replace G2 := Sg.set2 (k' := m8) G2 S15 (.slice c8 n8 k8)
  replace G3 := Sg.set2 (k' := m8) G3 S15 (.slice c8 n8 k8)
  replace G4 := Sg.set2 (k' := m8) G4 S15 (.slice c8 n8 k8)
  replace G5 := Sg.set2 (k' := m8) G5 S15 (.slice c8 n8 k8)
  replace G6 := Sg.set2 (k' := m8) G6 S15 (.slice c8 n8 k8)
  replace G7 := Sg.set2 (k' := m8) G7 S15 (.slice c8 n8 k8)
  replace G8 := Sg.set2 (k' := m8) G8 S15 (.slice c8 n8 k8)
  replace PA := (PA.skip (c := w8.heap.size) (by omega) 0 (.bool m8)).skip (c := w8.heap.size) (by omega) 1 (.slice c8 n8 k8)
  replace QA := (QA.skip (c := w8.heap.size) (by omega) 0 (.bool m8)).skip (c := w8.heap.size) (by omega) 1 (.slice c8 n8 k8)
  replace RA := (RA.skip (c := w8.heap.size) (by omega) 0 (.bool m8)).skip (c := w8.heap.size) (by omega) 1 (.slice c8 n8 k8)
  replace S10 := (S10.skip (c := w8.heap.size) (by omega) 0 (.bool m8)).skip (c := w8.heap.size) (by omega) 1 (.slice c8 n8 k8)
  replace S11 := (S11.skip (c := w8.heap.size) (by omega) 0 (.bool m8)).skip (c := w8.heap.size) (by omega) 1 (.slice c8 n8 k8)
  replace S12 := (S12.skip (c := w8.heap.size) (by omega) 0 (.bool m8)).skip (c := w8.heap.size) (by omega) 1 (.slice c8 n8 k8)
  replace S13 := (S13.skip (c := w8.heap.size) (by omega) 0 (.bool m8)).skip (c := w8.heap.size) (by omega) 1 (.slice c8 n8 k8)
  replace S14 := (S14.skip (c := w8.heap.size) (by omega) 0 (.bool m8)).skip (c := w8.heap.size) (by omega) 1 (.slice c8 n8 k8)
  replace S15 := At.fill2 (S15.has rfl) (.bool m8) (.slice c8 n8 k8)
  generalize (w10.setCell ⟨w8.heap.size, 0, none⟩ (.bool m8)).setCell ⟨w8.heap.size, 1, none⟩ (.slice c8 n8 k8) = w10' at *
  obtain ⟨S140, S141⟩ := S14.c2
  have S14l := S14.lt
  obtain ⟨S150, S151⟩ := S15.c2
  have S15l := S15.lt
  go_wp2_with fail
  refine (HR.out _ _ _ _ _ G7 G8).mono ?_
  rintro e w20 ⟨rfl, hB⟩
  replace HC := Gr.step HC hB
  replace PA := At.below hB PA
  replace QA := At.below hB QA
  replace RA := At.below hB RA
  replace S10 := At.below hB S10
  replace S11 := At.below hB S11
  replace S12 := At.below hB S12
  replace S13 := At.below hB S13
  replace S14 := At.below hB S14
  replace S15 := At.below hB S15
  replace G1 := Sg.step hB G1
  replace G2 := Sg.step hB G2
  replace G3 := Sg.step hB G3
  replace G4 := Sg.step hB G4
  replace G5 := Sg.step hB G5
  replace G6 := Sg.step hB G6
  replace G7 := Sg.step hB G7
  replace G8 := Sg.step hB G8
  clear hB
  clear S140 S141 S14l S150 S151 S15l
  clear HR
  obtain ⟨r0, r1⟩ := RA.c2
  obtain ⟨f0, f1⟩ := RA.f2
  have rl := RA.lt
  cases F
  · obtain ⟨e1, e2⟩ := HQ.out rfl
    have e3 := HQC.out
    subst e1 e2 e3
    clear HQ HQC
    go_wp2
    first
      | exact bodyPost_ret (v := .tuple #[fr0, .int .i64 2]) (by simp [results, Tryd.results25, go_sem, r0, r1]) rfl ⟨rfl, ((HC.alloc _).set hge _ _).set hge _ _⟩
      | exact bodyPost_ret (v := .tuple #[fr0, .int .i64 2]) (by obtain ⟨t0, t1⟩ := ((At.fill2 (RA.has rfl) (.int .i64 0) (.int .i64 0)).alloc (.cells #[.int .i64 0, .int .i64 0] 29)).c2; simp [results, Tryd.results25, go_sem, t0, t1]) rfl ⟨rfl, ((HC.set hge _ _).set hge _ _).alloc _⟩
  · have e3 := HQC.out
    subst e3
    clear HQ HQC
    go_wp2
    first
      | exact bodyPost_ret (v := .tuple #[.agg #[.int .i64 X, .int .i64 Z], .int .i64 0]) (by simp [results, Tryd.results25, go_sem, r0, r1]) rfl ⟨rfl, ((HC.alloc _).set hge _ _).set hge _ _⟩
      | exact bodyPost_ret (v := .tuple #[.agg #[.int .i64 X, .int .i64 Z], .int .i64 0]) (by obtain ⟨t0, t1⟩ := ((At.fill2 (RA.has rfl) (.int .i64 X) (.int .i64 Z)).alloc (.cells #[.int .i64 X, .int .i64 Z] 29)).c2; simp [results, Tryd.results25, go_sem, t0, t1]) rfl ⟨rfl, ((HC.set hge _ _).set hge _ _).alloc _⟩
end Go.Proofs.YtgjjgicojedefaaDoor
