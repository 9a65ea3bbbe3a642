/-
  mercatorref1.OfTwo by +.
-/
import Derived.Test.YtgjjgicojedefaaDoorRkE
namespace Go.Proofs.YtgjjgicojedefaaDoor
open Go.RowKit BG
attribute [local go_sem ↓] Go.wp_at_zero Go.wp_at_succ

theorem s8 {W : World} {A B C D : Nat} {a b c d e f g h : Value} (h1 : At W A [a, b]) (h2 : At W B [c, d]) (h3 : At W C [e, f]) (h4 : At W D [g, h]) : W.cell? ⟨A, 0, none⟩ = some a ∧ W.cell? ⟨A, 1, none⟩ = some b ∧ W.cell? ⟨B, 0, none⟩ = some c ∧ W.cell? ⟨B, 1, none⟩ = some d ∧ W.cell? ⟨C, 0, none⟩ = some e ∧ W.cell? ⟨C, 1, none⟩ = some f ∧ W.cell? ⟨D, 0, none⟩ = some g ∧ W.cell? ⟨D, 1, none⟩ = some h := ⟨h1.c2.1, h1.c2.2, h2.c2.1, h2.c2.2, h3.c2.1, h3.c2.2, h4.c2.1, h4.c2.2⟩
set_option maxRecDepth 4000 in
set_option maxHeartbeats 8000000 in
theorem of_add (an ad bn bd : Int) (ha : Rgt an ad) (hb : Rgt bn bd) (w : World) : Calls Tryd.prog 25 #[.agg #[.int .i64 an, .int .i64 ad], .agg #[.int .i64 bn, .int .i64 bd], .int .u8 43] w fun e w' => e = .returned (.tuple #[.agg #[.int .i64 (qx (an * bd + bn * ad) (ad * bd)), .int .i64 (qy (an * bd + bn * ad) (ad * bd))], .int .i64 (qc (an * bd + bn * ad) (ad * bd))]) ∧ Below w.heap.size w w' := by
  have HX := hidb (fun w => isRight_any an ad w)
  have HY := hidb (fun w => isRight_any bn bd w)
  rw [decide_eq_true ha] at HX
  rw [decide_eq_true hb] at HY
  have sa := ha.sml
  have sd := ha.smd
  have ta := hb.sml
  have td := hb.smd
  have N1 := hidb (fun w => ofS an sa w)
  have N2 := hidb (fun w => ofS ad sd w)
  have N3 := hidb (fun w => ofS bn ta w)
  have N4 := hidb (fun w => ofS bd td w)
  have da := ha.1.1
  have db := hb.1.1
  have hD : ¬ ad * bd = 0 := Int.mul_ne_zero (by omega) (by omega)
  have HR := hidb (fun w o t o' t' (a : Sg w o t (an * bd + bn * ad)) (b : Sg w o' t' (ad * bd)) => reduced_all (x := an * bd + bn * ad) (y := ad * bd) (lid_add (sml_lid sa td) (sml_lid ta sd)) (lid_2 (sml_lid sd td)) hD a b)
  have HQ : Hid (qf (an * bd + bn * ad) (ad * bd) = false → qx (an * bd + bn * ad) (ad * bd) = 0 ∧ qy (an * bd + bn * ad) (ad * bd) = 0) := q_none _ _
  have HQC : Hid (qc (an * bd + bn * ad) (ad * bd) = if qf (an * bd + bn * ad) (ad * bd) then 0 else 2) := show _ = _ from rfl
  have M13 := hidb (fun w {m n : Bool} {u v : Value} (h : Sg w m u an) (k : Sg w n v bn) => mulS h k sa ta)
  have M24 := hidb (fun w {m n : Bool} {u v : Value} (h : Sg w m u ad) (k : Sg w n v bd) => mulS h k sd td)
  have M14 := hidb (fun w {m n : Bool} {u v : Value} (h : Sg w m u an) (k : Sg w n v bd) => mulS h k sa td)
  have M32 := hidb (fun w {m n : Bool} {u v : Value} (h : Sg w m u bn) (k : Sg w n v ad) => mulS h k ta sd)
  have AD := hidb (show ∀ (w : World) (m n : Bool) (u v : Value), Sg w m u (an * bd) → Sg w n v (bn * ad) → Calls Tryd.prog 55 #[.agg #[.bool m, u], .agg #[.bool n, v]] w (fun e w' => ∃ o t, e = .returned (.agg #[.bool o, t]) ∧ Sg w' o t (an * bd + bn * ad) ∧ Below w.heap.size w w' ∧ w.heap.size < w'.heap.size) from fun w m n u v h k => signedAdd_any (show (an * bd).natAbs ≤ 4 * lid by have := sml_lid sa td; omega) (show (bn * ad).natAbs ≤ 4 * lid by have := sml_lid ta sd; omega) h k)
  clear ha hb da db hD sa sd ta td
  generalize qx (an * bd + bn * ad) (ad * bd) = X at *
  generalize qy (an * bd + bn * ad) (ad * bd) = Z at *
  generalize qf (an * bd + bn * ad) (ad * bd) = F at *
  generalize qc (an * bd + bn * ad) (ad * bd) = cc at *
  have HC : Gr w (((w.alloc (.cells #[.int .i64 an, .int .i64 ad] 29)).alloc (.cells #[.int .i64 bn, .int .i64 bd] 29)).alloc (.cells #[.int .i64 0, .int .i64 0] 29)) := (((Gr.refl w).alloc _).alloc _).alloc _
  have PA := ((At.new2 w (.int .i64 an) (.int .i64 ad) 29).alloc (.cells #[.int .i64 bn, .int .i64 bd] 29)).alloc (.cells #[.int .i64 0, .int .i64 0] 29)
  have QA := (At.nx2 (W := w) (.cells #[.int .i64 an, .int .i64 ad] 29) (.int .i64 bn) (.int .i64 bd) 29).alloc (.cells #[.int .i64 0, .int .i64 0] 29)
  have RA := At.ny2 (W := w) (.cells #[.int .i64 an, .int .i64 ad] 29) (.cells #[.int .i64 bn, .int .i64 bd] 29) (.int .i64 0) (.int .i64 0) 29
  have hge : w.heap.size ≤ w.heap.size + 1 + 1 := by omega
  go_enter Tryd.func25, Tryd.ntmps25
  go_wp2_with fail
  refine (HX.out _).mono ?_
  rintro e w1 ⟨rfl, hB⟩
  replace HC := Gr.step HC hB
  replace PA := At.below hB PA
  replace QA := At.below hB QA
  replace RA := At.below hB RA
  clear hB
  clear HX
  obtain ⟨PA0, PA1⟩ := PA.c2
  have PAl := PA.lt
  obtain ⟨QA0, QA1⟩ := QA.c2
  have QAl := QA.lt
  go_wp2_with fail
  refine (HY.out _).mono ?_
  rintro e w2 ⟨rfl, hB⟩
  replace HC := Gr.step HC hB
  replace PA := At.below hB PA
  replace QA := At.below hB QA
  replace RA := At.below hB RA
  clear hB
  clear PA0 PA1 PAl QA0 QA1 QAl
  clear HY
  obtain ⟨PA0, PA1⟩ := PA.c2
  have PAl := PA.lt
  obtain ⟨QA0, QA1⟩ := QA.c2
  have QAl := QA.lt
  go_wp2_with fail
  refine (N1.out _).mono ?_
  rintro e w3 ⟨m1, u1, rfl, G1, hB, _⟩
  obtain ⟨c1, k1, hf⟩ := G1.1.form
  subst hf
  generalize List.length _ = n1 at G1 ⊢
  replace HC := Gr.step HC hB
  replace PA := At.below hB PA
  replace QA := At.below hB QA
  replace RA := At.below hB RA
  clear hB
  clear PA0 PA1 PAl QA0 QA1 QAl
  clear N1
  obtain ⟨PA0, PA1⟩ := PA.c2
  have PAl := PA.lt
  obtain ⟨QA0, QA1⟩ := QA.c2
  have QAl := QA.lt
  go_wp2_with fail
  refine (N2.out _).mono ?_
  rintro e w4 ⟨m2, u2, rfl, G2, hB, _⟩
  obtain ⟨c2, k2, hf⟩ := G2.1.form
  subst hf
  generalize List.length _ = n2 at G2 ⊢
  replace HC := Gr.step (HC.alloc _) hB
  replace PA := At.below hB (PA.alloc _)
  replace QA := At.below hB (QA.alloc _)
  replace RA := At.below hB (RA.alloc _)
  have S10 := At.below hB (At.new2 _ (.bool m1) (.slice c1 n1 k1) 38)
  replace G1 := Sg.step hB (G1.alloc _)
  clear hB
  clear PA0 PA1 PAl QA0 QA1 QAl
  clear N2
  obtain ⟨PA0, PA1⟩ := PA.c2
  have PAl := PA.lt
  obtain ⟨QA0, QA1⟩ := QA.c2
  have QAl := QA.lt
  obtain ⟨S100, S101⟩ := S10.c2
  have S10l := S10.lt
  go_wp2_with fail
  refine (N3.out _).mono ?_
  rintro e w5 ⟨m3, u3, rfl, G3, hB, _⟩
  obtain ⟨c3, k3, hf⟩ := G3.1.form
  subst hf
  generalize List.length _ = n3 at G3 ⊢
  replace HC := Gr.step (HC.alloc _) hB
  replace PA := At.below hB (PA.alloc _)
  replace QA := At.below hB (QA.alloc _)
  replace RA := At.below hB (RA.alloc _)
  replace S10 := At.below hB (S10.alloc _)
  have S11 := At.below hB (At.new2 _ (.bool m2) (.slice c2 n2 k2) 38)
  replace G1 := Sg.step hB (G1.alloc _)
  replace G2 := Sg.step hB (G2.alloc _)
  clear hB
  clear PA0 PA1 PAl QA0 QA1 QAl S100 S101 S10l
  clear N3
  obtain ⟨PA0, PA1⟩ := PA.c2
  have PAl := PA.lt
  obtain ⟨QA0, QA1⟩ := QA.c2
  have QAl := QA.lt
  obtain ⟨S100, S101⟩ := S10.c2
  have S10l := S10.lt
  obtain ⟨S110, S111⟩ := S11.c2
  have S11l := S11.lt
  go_wp2_with fail
  refine (N4.out _).mono ?_
  rintro e w6 ⟨m4, u4, rfl, G4, hB, _⟩
  obtain ⟨c4, k4, hf⟩ := G4.1.form
  subst hf
  generalize List.length _ = n4 at G4 ⊢
  replace HC := Gr.step (HC.alloc _) hB
  replace PA := At.below hB (PA.alloc _)
  replace QA := At.below hB (QA.alloc _)
  replace RA := At.below hB (RA.alloc _)
  replace S10 := At.below hB (S10.alloc _)
  replace S11 := At.below hB (S11.alloc _)
  have S12 := At.below hB (At.new2 _ (.bool m3) (.slice c3 n3 k3) 38)
  replace G1 := Sg.step hB (G1.alloc _)
  replace G2 := Sg.step hB (G2.alloc _)
  replace G3 := Sg.step hB (G3.alloc _)
  clear hB
  clear PA0 PA1 PAl QA0 QA1 QAl S100 S101 S10l S110 S111 S11l
  clear N4
  obtain ⟨PA0, PA1⟩ := PA.c2
  have PAl := PA.lt
  obtain ⟨QA0, QA1⟩ := QA.c2
  have QAl := QA.lt
  obtain ⟨S100, S101⟩ := S10.c2
  have S10l := S10.lt
  obtain ⟨S110, S111⟩ := S11.c2
  have S11l := S11.lt
  obtain ⟨S120, S121⟩ := S12.c2
  have S12l := S12.lt
  go_wp2_with fail
  refine (M13.out _ (Sg.alloc G1 _) (Sg.alloc G3 _)).mono ?_
  rintro e w7 ⟨m5, u5, rfl, G5, hB, _⟩
  obtain ⟨c5, k5, hf⟩ := G5.1.form
  subst hf
  generalize List.length _ = n5 at G5 ⊢
  replace HC := Gr.step (HC.alloc _) hB
  replace PA := At.below hB (PA.alloc _)
  replace QA := At.below hB (QA.alloc _)
  replace RA := At.below hB (RA.alloc _)
  replace S10 := At.below hB (S10.alloc _)
  replace S11 := At.below hB (S11.alloc _)
  replace S12 := At.below hB (S12.alloc _)
  have S13 := At.below hB (At.new2 _ (.bool m4) (.slice c4 n4 k4) 38)
  replace G1 := Sg.step hB (G1.alloc _)
  replace G2 := Sg.step hB (G2.alloc _)
  replace G3 := Sg.step hB (G3.alloc _)
  replace G4 := Sg.step hB (G4.alloc _)
  clear hB
  clear PA0 PA1 PAl QA0 QA1 QAl S100 S101 S10l S110 S111 S11l S120 S121 S12l
  have PAe7 := PA.lt
  have QAe7 := QA.lt
  have RAe7 := RA.lt
  have S10e7 := S10.lt
  have S11e7 := S11.lt
  have S12e7 := S12.lt
  have S13e7 := S13.lt
  obtain ⟨S100, S101⟩ := S10.c2
  have S10l := S10.lt
  obtain ⟨S110, S111⟩ := S11.c2
  have S11l := S11.lt
  obtain ⟨S120, S121⟩ := S12.c2
  have S12l := S12.lt
  obtain ⟨S130, S131⟩ := S13.c2
  have S13l := S13.lt
  go_wp2_with fail
  refine (M24.out _ (Sg.alloc G2 _) (Sg.alloc G4 _)).mono ?_
  rintro e w8 ⟨m6, u6, rfl, G6, hB, _⟩
  obtain ⟨c6, k6, hf⟩ := G6.1.form
  subst hf
  generalize List.length _ = n6 at G6 ⊢
  replace HC := Gr.step (HC.alloc _) hB
  replace PA := At.below hB (PA.alloc _)
  replace QA := At.below hB (QA.alloc _)
  replace RA := At.below hB (RA.alloc _)
  replace S10 := At.below hB (S10.alloc _)
  replace S11 := At.below hB (S11.alloc _)
  replace S12 := At.below hB (S12.alloc _)
  replace S13 := At.below hB (S13.alloc _)
  have S14 := At.below hB (At.new2 _ (.bool m5) (.slice c5 n5 k5) 38)
  replace G1 := Sg.step hB (G1.alloc _)
  replace G2 := Sg.step hB (G2.alloc _)
  replace G3 := Sg.step hB (G3.alloc _)
  replace G4 := Sg.step hB (G4.alloc _)
  replace G5 := Sg.step hB (G5.alloc _)
  clear hB
  clear S100 S101 S10l S110 S111 S11l S120 S121 S12l S130 S131 S13l
  have PAe8 := PA.lt
  have QAe8 := QA.lt
  have RAe8 := RA.lt
  have S10e8 := S10.lt
  have S11e8 := S11.lt
  have S12e8 := S12.lt
  have S13e8 := S13.lt
  have S14e8 := S14.lt
  obtain ⟨S100, S101⟩ := S10.c2
  have S10l := S10.lt
  obtain ⟨S110, S111⟩ := S11.c2
  have S11l := S11.lt
  obtain ⟨S120, S121⟩ := S12.c2
  have S12l := S12.lt
  obtain ⟨S130, S131⟩ := S13.c2
  have S13l := S13.lt
  obtain ⟨S140, S141⟩ := S14.c2
  have S14l := S14.lt
  go_upto_region 13 with fail
  replace HC := HC.alloc (.cells #[.bool m6, .slice c6 n6 k6] 38)
  replace PA := PA.alloc (.cells #[.bool m6, .slice c6 n6 k6] 38)
  replace QA := QA.alloc (.cells #[.bool m6, .slice c6 n6 k6] 38)
  replace RA := RA.alloc (.cells #[.bool m6, .slice c6 n6 k6] 38)
  replace S10 := S10.alloc (.cells #[.bool m6, .slice c6 n6 k6] 38)
  replace S11 := S11.alloc (.cells #[.bool m6, .slice c6 n6 k6] 38)
  replace S12 := S12.alloc (.cells #[.bool m6, .slice c6 n6 k6] 38)
  replace S13 := S13.alloc (.cells #[.bool m6, .slice c6 n6 k6] 38)
  replace S14 := S14.alloc (.cells #[.bool m6, .slice c6 n6 k6] 38)
  replace G1 := G1.alloc (.cells #[.bool m6, .slice c6 n6 k6] 38)
  replace G2 := G2.alloc (.cells #[.bool m6, .slice c6 n6 k6] 38)
  replace G3 := G3.alloc (.cells #[.bool m6, .slice c6 n6 k6] 38)
  replace G4 := G4.alloc (.cells #[.bool m6, .slice c6 n6 k6] 38)
  replace G5 := G5.alloc (.cells #[.bool m6, .slice c6 n6 k6] 38)
  replace G6 := G6.alloc (.cells #[.bool m6, .slice c6 n6 k6] 38)
  have S15 := At.new2 w8 (.bool m6) (.slice c6 n6 k6) 38
  clear S100 S101 S10l S110 S111 S11l S120 S121 S12l S130 S131 S13l S140 S141 S14l
  generalize w8.alloc (.cells #[.bool m6, .slice c6 n6 k6] 38) = w8' at *
  go_region_held (fun w' => w'.cell? ⟨w3.heap.size, 0, none⟩ = some (.bool m1) ∧ w'.cell? ⟨w3.heap.size, 1, none⟩ = some (.slice c1 n1 k1) ∧ w'.cell? ⟨w4.heap.size, 0, none⟩ = some (.bool m2) ∧ w'.cell? ⟨w4.heap.size, 1, none⟩ = some (.slice c2 n2 k2) ∧ w'.cell? ⟨w5.heap.size, 0, none⟩ = some (.bool m3) ∧ w'.cell? ⟨w5.heap.size, 1, none⟩ = some (.slice c3 n3 k3) ∧ w'.cell? ⟨w6.heap.size, 0, none⟩ = some (.bool m4) ∧ w'.cell? ⟨w6.heap.size, 1, none⟩ = some (.slice c4 n4 k4))
    ((refine s8 (a := .bool m1) (b := .slice c1 n1 k1) (c := .bool m2) (d := .slice c2 n2 k2) (e := .bool m3) (f := .slice c3 n3 k3) (g := .bool m4) (h := .slice c4 n4 k4) ?_ ?_ ?_ ?_; all_goals ((with_reducible repeat' (first | assumption | exact At.new1 _ _ _ | exact At.new2 _ _ _ _ | exact At.new3 _ _ _ _ _ | exact At.nx1 _ _ _ | exact At.nx2 _ _ _ _ | exact At.nx3 _ _ _ _ _ | exact At.ny1 _ _ _ _ | exact At.ny2 _ _ _ _ _ | exact At.ny3 _ _ _ _ _ _ | exact At.nz1 _ _ _ _ _ | exact At.nz2 _ _ _ _ _ _ | exact At.nz3 _ _ _ _ _ _ _ | exact Has.new1 _ _ _ | exact Has.new2 _ _ _ _ | exact Has.new3 _ _ _ _ _ | exact Has.nx1 _ _ _ | exact Has.nx2 _ _ _ _ | exact Has.nx3 _ _ _ _ _ | exact Has.ny1 _ _ _ _ | exact Has.ny2 _ _ _ _ _ | exact Has.ny3 _ _ _ _ _ _ | exact Has.nz1 _ _ _ _ _ | exact Has.nz2 _ _ _ _ _ _ | exact Has.nz3 _ _ _ _ _ _ _ | refine At.fill1 ?_ _ | refine At.fill2 ?_ _ _ | refine At.fill3 ?_ _ _ _ | refine At.swap ?_ (by first | omega | (simp; omega)) _ _ | refine At.alloc ?_ _ | refine At.drew ?_ | refine At.skip ?_ (by first | omega | (simp; omega)) _ _ | refine At.below (by assumption) ?_ | refine Has.alloc ?_ _ | refine Has.drew ?_ | refine Has.set ?_ _ _ _ | refine Has.below (by assumption) ?_)); done)))
    ((first
      | (go_at_call 49; with_reducible refine (M14.out _ (m := m1) (u := .slice c1 n1 k1) (n := m4) (v := .slice c4 n4 k4) (by ((with_reducible repeat' (first | assumption | refine Sg.drew ?_ | refine Sg.step (by assumption) ?_)); done)) (by ((with_reducible repeat' (first | assumption | refine Sg.drew ?_ | refine Sg.step (by assumption) ?_)); done))).mono ?_; rintro e w9 ⟨m7, u7, rfl, G7, hB, _⟩; (with_reducible first | replace hB := undr hB | skip); replace HC := Gr.step HC hB; replace PA := At.below hB PA; replace QA := At.below hB QA; replace RA := At.below hB RA; replace S10 := At.below hB S10; replace S11 := At.below hB S11; replace S12 := At.below hB S12; replace S13 := At.below hB S13; replace S14 := At.below hB S14; replace S15 := At.below hB S15; replace G1 := Sg.step hB G1; replace G2 := Sg.step hB G2; replace G3 := Sg.step hB G3; replace G4 := Sg.step hB G4; replace G5 := Sg.step hB G5; replace G6 := Sg.step hB G6; clear hB)
      | (go_at_call 49; with_reducible refine (M32.out _ (m := m3) (u := .slice c3 n3 k3) (n := m2) (v := .slice c2 n2 k2) (by ((with_reducible repeat' (first | assumption | refine Sg.drew ?_ | refine Sg.step (by assumption) ?_)); done)) (by ((with_reducible repeat' (first | assumption | refine Sg.drew ?_ | refine Sg.step (by assumption) ?_)); done))).mono ?_; rintro e w9 ⟨m8, u8, rfl, G8, hB, _⟩; (with_reducible first | replace hB := undr hB | skip); replace HC := Gr.step HC hB; replace PA := At.below hB PA; replace QA := At.below hB QA; replace RA := At.below hB RA; replace S10 := At.below hB S10; replace S11 := At.below hB S11; replace S12 := At.below hB S12; replace S13 := At.below hB S13; replace S14 := At.below hB S14; replace S15 := At.below hB S15; replace G1 := Sg.step hB G1; replace G2 := Sg.step hB G2; replace G3 := Sg.step hB G3; replace G4 := Sg.step hB G4; replace G5 := Sg.step hB G5; replace G6 := Sg.step hB G6; replace G7 := Sg.step hB G7; clear hB)
      | (go_at_call 55; have Q := AD.out _ _ _ _ _ G7 G8; with_reducible refine Q.mono ?_; clear Q; rintro e w9 ⟨m0, u0, rfl, G0, hB, _⟩; (with_reducible first | replace hB := undr hB | skip); replace HC := Gr.step HC hB; replace PA := At.below hB PA; replace QA := At.below hB QA; replace RA := At.below hB RA; replace S10 := At.below hB S10; replace S11 := At.below hB S11; replace S12 := At.below hB S12; replace S13 := At.below hB S13; replace S14 := At.below hB S14; replace S15 := At.below hB S15; replace G1 := Sg.step hB G1; replace G2 := Sg.step hB G2; replace G3 := Sg.step hB G3; replace G4 := Sg.step hB G4; replace G5 := Sg.step hB G5; replace G6 := Sg.step hB G6; clear hB; (obtain ⟨c0, k0, hf⟩ := Sg.form G0); (subst hf); (generalize List.length _ = n0 at G0 ⊢); (obtain ⟨a0, a1⟩ := S14.c2); (obtain ⟨b0, b1⟩ := S14.f2))))
  go_upto_region 19 with fail
  clear a0 a1 b0 b1
  have hga : w.heap.size ≤ w7.heap.size := by omega
  replace HC := (HC.set hga 0 (.bool m0)).set hga 1 (.slice c0 n0 k0)
  replace G0 := Sg.set2 (k' := m0) G0 S14 (.slice c0 n0 k0)
  replace G6 := Sg.set2 (k' := m0) G6 S14 (.slice c0 n0 k0)
  replace PA := (PA.skip (c := w7.heap.size) (by omega) 0 (.bool m0)).skip (c := w7.heap.size) (by omega) 1 (.slice c0 n0 k0)
  replace QA := (QA.skip (c := w7.heap.size) (by omega) 0 (.bool m0)).skip (c := w7.heap.size) (by omega) 1 (.slice c0 n0 k0)
  replace RA := (RA.skip (c := w7.heap.size) (by omega) 0 (.bool m0)).skip (c := w7.heap.size) (by omega) 1 (.slice c0 n0 k0)
  replace S10 := (S10.skip (c := w7.heap.size) (by omega) 0 (.bool m0)).skip (c := w7.heap.size) (by omega) 1 (.slice c0 n0 k0)
  replace S11 := (S11.skip (c := w7.heap.size) (by omega) 0 (.bool m0)).skip (c := w7.heap.size) (by omega) 1 (.slice c0 n0 k0)
  replace S12 := (S12.skip (c := w7.heap.size) (by omega) 0 (.bool m0)).skip (c := w7.heap.size) (by omega) 1 (.slice c0 n0 k0)
  replace S13 := (S13.skip (c := w7.heap.size) (by omega) 0 (.bool m0)).skip (c := w7.heap.size) (by omega) 1 (.slice c0 n0 k0)
  replace S15 := (S15.skip (c := w7.heap.size) (by omega) 0 (.bool m0)).skip (c := w7.heap.size) (by omega) 1 (.slice c0 n0 k0)
  replace S14 := At.fill2 (S14.has rfl) (.bool m0) (.slice c0 n0 k0)
  generalize (w9.setCell ⟨w7.heap.size, 0, none⟩ (.bool m0)).setCell ⟨w7.heap.size, 1, none⟩ (.slice c0 n0 k0) = w9' at *
  obtain ⟨S140, S141⟩ := S14.c2
  have S14l := S14.lt
  obtain ⟨S150, S151⟩ := S15.c2
  have S15l := S15.lt
  go_wp2_with fail
  refine (HR.out _ _ _ _ _ G0 G6).mono ?_
  rintro e w20 ⟨rfl, hB⟩
  replace HC := Gr.step HC hB
  replace PA := At.below hB PA
  replace QA := At.below hB QA
  replace RA := At.below hB RA
  replace S10 := At.below hB S10
  replace S11 := At.below hB S11
  replace S12 := At.below hB S12
  replace S13 := At.below hB S13
  replace S14 := At.below hB S14
  replace S15 := At.below hB S15
  replace G0 := Sg.step hB G0
  replace G6 := Sg.step hB G6
  clear hB
  clear S140 S141 S14l S150 S151 S15l
  clear HR
  obtain ⟨r0, r1⟩ := RA.c2
  obtain ⟨f0, f1⟩ := RA.f2
  have rl := RA.lt
  cases F
  · obtain ⟨e1, e2⟩ := HQ.out rfl
    have e3 := HQC.out
    subst e1 e2 e3
    clear HQ HQC
    go_wp2
    first
      | exact bodyPost_ret (v := .tuple #[fr0, .int .i64 2]) (by simp [results, Tryd.results25, go_sem, r0, r1]) rfl ⟨rfl, ((HC.alloc _).set hge _ _).set hge _ _⟩
      | exact bodyPost_ret (v := .tuple #[fr0, .int .i64 2]) (by obtain ⟨t0, t1⟩ := ((At.fill2 (RA.has rfl) (.int .i64 0) (.int .i64 0)).alloc (.cells #[.int .i64 0, .int .i64 0] 29)).c2; simp [results, Tryd.results25, go_sem, t0, t1]) rfl ⟨rfl, ((HC.set hge _ _).set hge _ _).alloc _⟩
  · have e3 := HQC.out
    subst e3
    clear HQ HQC
    go_wp2
    first
      | exact bodyPost_ret (v := .tuple #[.agg #[.int .i64 X, .int .i64 Z], .int .i64 0]) (by simp [results, Tryd.results25, go_sem, r0, r1]) rfl ⟨rfl, ((HC.alloc _).set hge _ _).set hge _ _⟩
      | exact bodyPost_ret (v := .tuple #[.agg #[.int .i64 X, .int .i64 Z], .int .i64 0]) (by obtain ⟨t0, t1⟩ := ((At.fill2 (RA.has rfl) (.int .i64 X) (.int .i64 Z)).alloc (.cells #[.int .i64 X, .int .i64 Z] 29)).c2; simp [results, Tryd.results25, go_sem, t0, t1]) rfl ⟨rfl, ((HC.set hge _ _).set hge _ _).alloc _⟩
end Go.Proofs.YtgjjgicojedefaaDoor
