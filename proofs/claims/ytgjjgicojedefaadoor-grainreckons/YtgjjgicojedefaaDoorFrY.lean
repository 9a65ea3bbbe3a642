/-
  grain's ratio.times.
-/
import Derived.Test.YtgjjgicojedefaaDoorFrX
namespace Go.Proofs.YtgjjgicojedefaaDoor
open Go.RowKit BG
attribute [local go_sem ↓] Go.wp_at_zero Go.wp_at_succ

theorem s222 {W : World} {A B : Nat} {a b c d : Value} (hP : At W A [a, b]) (hQ : At W B [c, d]) : W.cell? ⟨A, 0, none⟩ = some a ∧ W.cell? ⟨A, 1, none⟩ = some b ∧ W.cell? ⟨B, 0, none⟩ = some c ∧ W.cell? ⟨B, 1, none⟩ = some d := ⟨hP.c2.1, hP.c2.2, hQ.c2.1, hQ.c2.2⟩
theorem div_words {x c p : Nat} (h : x / c = p) (hx : x < 18446744073709551616) : (x : Int).tdiv (c : Int) = (p : Int) ∧ IntKind.u64.wrap (p : Int) = (p : Int) := ⟨by rw [← h]; rfl, wr_nat (by have := Nat.div_le_self x c; omega)⟩
set_option maxRecDepth 4000 in
set_option maxHeartbeats 4000000 in
theorem times_any (g : Nat → Addr) (an ad bn bd : Int) (ha : Rgt an ad) (hb : Rgt bn bd) (w : World) (hl : Laid w g) : Calls Tryd.prog 53 #[.agg #[.int .i64 an, .int .i64 ad], .agg #[.int .i64 bn, .int .i64 bd]] w fun e w' => e = .returned (.tuple #[.agg #[.int .i64 (qx (an * bn) (ad * bd)), .int .i64 (qy (an * bn) (ad * bd))], qe g (an * bn) (ad * bd)]) ∧ Below w.heap.size w w' := by
  obtain ⟨⟨a1, a2, a3, a4⟩, ga⟩ := ha
  obtain ⟨⟨b1, b2, b3, b4⟩, gb⟩ := hb
  rw [← rx_prod (show 0 < ad by omega) (show 0 < bd by omega)]
  unfold qy qe
  rw [Int.natAbs_mul, Int.natAbs_mul]
  have HSa := hidb (fun w => size_any an (by omega) (by omega) w)
  have HSb := hidb (fun w => size_any bn (by omega) (by omega) w)
  have ea : IntKind.u64.wrap ad = ((ad.natAbs : Nat) : Int) := by rw [IntKind.wrap_u64]; omega
  have eb : IntKind.u64.wrap bd = ((bd.natAbs : Nat) : Int) := by rw [IntKind.wrap_u64]; omega
  have xa : an.natAbs ≤ 4611686018427387904 := by omega
  have xb : bn.natAbs ≤ 4611686018427387904 := by omega
  have ya : ad.natAbs ≤ 4611686018427387904 := by omega
  have yb : bd.natAbs ≤ 4611686018427387904 := by omega
  have za : 0 < ad.natAbs := by omega
  have zb : 0 < bd.natAbs := by omega
  generalize an.natAbs = x at *
  generalize bn.natAbs = y at *
  generalize ad.natAbs = A at *
  generalize bd.natAbs = B at *
  clear a1 a2 a3 a4 b1 b2 b3 b4
  obtain ⟨t1, t2, t3, t4⟩ := times_red ga gb za zb
  have HG1 := hidb (fun w => divisor_any x B (by omega) (by omega) w)
  have HG2 := hidb (fun w => divisor_any y A (by omega) (by omega) w)
  generalize Nat.gcd x B = c at *
  generalize Nat.gcd y A = d at *
  obtain ⟨P, hP⟩ : ∃ P, rn (x * y) (A * B) = P := ⟨_, rfl⟩
  obtain ⟨Q, hQ⟩ : ∃ Q, rd (x * y) (A * B) = Q := ⟨_, rfl⟩
  rw [hP] at t1 ⊢
  rw [hQ] at t2 ⊢
  clear hP hQ ga gb
  obtain ⟨p1, h1⟩ : ∃ p1, x / c = p1 := ⟨_, rfl⟩
  obtain ⟨p2, h2⟩ : ∃ p2, y / d = p2 := ⟨_, rfl⟩
  obtain ⟨p3, h3⟩ : ∃ p3, A / d = p3 := ⟨_, rfl⟩
  obtain ⟨p4, h4⟩ : ∃ p4, B / c = p4 := ⟨_, rfl⟩
  rw [h1, h2] at t1
  rw [h3, h4] at t2
  obtain ⟨u1, v1⟩ := div_words h1 (by omega)
  obtain ⟨u2, v2⟩ := div_words h2 (by omega)
  obtain ⟨u3, v3⟩ := div_words h3 (by omega)
  obtain ⟨u4, v4⟩ := div_words h4 (by omega)
  have l1 : p1 ≤ 4611686018427387904 := by have := Nat.div_le_self x c; omega
  have l2 : p2 ≤ 4611686018427387904 := by have := Nat.div_le_self y d; omega
  have l3 : p3 ≤ 4611686018427387904 := by have := Nat.div_le_self A d; omega
  have l4 : p4 ≤ 4611686018427387904 := by have := Nat.div_le_self B c; omega
  have HM1 := hidb (fun w => multiply_any p1 p2 (by omega) (by omega) w)
  have HM2 := hidb (fun w => multiply_any p3 p4 (by omega) (by omega) w)
  have m1 : (p1 : Int) * (p2 : Int) = (P : Int) := by rw [t1, Int.natCast_mul]
  have m2 : (p3 : Int) * (p4 : Int) = (Q : Int) := by rw [t2, Int.natCast_mul]
  rw [m1] at HM1
  rw [m2] at HM2
  have lP : P < 340282366920938463463374607431768211456 := by rw [t1]; exact mul_128 (by omega) (by omega)
  have lQ : Q < 340282366920938463463374607431768211456 := by rw [t2]; exact mul_128 (by omega) (by omega)
  have HB := hidb (fun w hl => bounded_all g (!(decide (an < 0) == decide (bn < 0))) P Q lP lQ w hl)
  have HM1' := hidb (show ∀ w, Calls Tryd.prog 69 #[.int .u64 (IntKind.u64.wrap (p1 : Int)), .int .u64 (IntKind.u64.wrap (p2 : Int))] w fun e w' => e = .returned (W2 (P : Int)) ∧ Below w.heap.size w w' from by rw [v1, v2]; exact HM1.out)
  have HM2' := hidb (show ∀ w, Calls Tryd.prog 69 #[.int .u64 (IntKind.u64.wrap (p3 : Int)), .int .u64 (IntKind.u64.wrap (p4 : Int))] w fun e w' => e = .returned (W2 (Q : Int)) ∧ Below w.heap.size w w' from by rw [v3, v4]; exact HM2.out)
  have c0 : ¬ (c : Int) = 0 := by omega
  have d0 : ¬ (d : Int) = 0 := by omega
  show Calls Tryd.prog 53 #[.agg #[.int .i64 an, .int .i64 ad], .agg #[.int .i64 bn, .int .i64 bd]] w fun e w' => e = .returned (.tuple #[.agg #[.int .i64 (rx (!(decide (an < 0) == decide (bn < 0))) P Q), .int .i64 (ry P Q)], re g P Q]) ∧ Below w.heap.size w w'
  generalize rx (!(decide (an < 0) == decide (bn < 0))) P Q = X at *
  generalize ry P Q = Z at *
  generalize re g P Q = E at *
  have HC : Gr w (((w.alloc (.cells #[.int .i64 an, .int .i64 ad] 88)).alloc (.cells #[.int .i64 bn, .int .i64 bd] 88)).alloc (.cells #[.int .i64 0, .int .i64 0] 29)) := (((Gr.refl w).alloc _).alloc _).alloc _
  have PA := ((At.new2 w (.int .i64 an) (.int .i64 ad) 88).alloc (.cells #[.int .i64 bn, .int .i64 bd] 88)).alloc (.cells #[.int .i64 0, .int .i64 0] 29)
  have QA := (At.nx2 (W := w) (.cells #[.int .i64 an, .int .i64 ad] 88) (.int .i64 bn) (.int .i64 bd) 88).alloc (.cells #[.int .i64 0, .int .i64 0] 29)
  have RA := At.ny2 (W := w) (.cells #[.int .i64 an, .int .i64 ad] 88) (.cells #[.int .i64 bn, .int .i64 bd] 88) (.int .i64 0) (.int .i64 0) 29
  clear xa xb ya yb za zb t1 t2 t3 t4 h1 h2 h3 h4 l1 l2 l3 l4 lP lQ m1 m2
  have hge : w.heap.size ≤ w.heap.size + 1 + 1 := by omega
  go_enter Tryd.func53, Tryd.ntmps53
  go_wp2_with fail
  generalize ((w.alloc (.cells #[.int .i64 an, .int .i64 ad] 88)).alloc (.cells #[.int .i64 bn, .int .i64 bd] 88)).alloc (.cells #[.int .i64 0, .int .i64 0] 29) = w3 at *
  go_region_held (fun w' => w'.cell? ⟨w.heap.size, 0, none⟩ = some (.int .i64 an) ∧ w'.cell? ⟨w.heap.size, 1, none⟩ = some (.int .i64 ad))
    ((refine At.c2 (a := .int .i64 an) (b := .int .i64 ad) ?_; ((with_reducible repeat' (first | assumption | exact At.new1 _ _ _ | exact At.new2 _ _ _ _ | exact At.new3 _ _ _ _ _ | exact At.nx1 _ _ _ | exact At.nx2 _ _ _ _ | exact At.nx3 _ _ _ _ _ | exact At.ny1 _ _ _ _ | exact At.ny2 _ _ _ _ _ | exact At.ny3 _ _ _ _ _ _ | exact At.nz1 _ _ _ _ _ | exact At.nz2 _ _ _ _ _ _ | exact At.nz3 _ _ _ _ _ _ _ | exact Has.new1 _ _ _ | exact Has.new2 _ _ _ _ | exact Has.new3 _ _ _ _ _ | exact Has.nx1 _ _ _ | exact Has.nx2 _ _ _ _ | exact Has.nx3 _ _ _ _ _ | exact Has.ny1 _ _ _ _ | exact Has.ny2 _ _ _ _ _ | exact Has.ny3 _ _ _ _ _ _ | exact Has.nz1 _ _ _ _ _ | exact Has.nz2 _ _ _ _ _ _ | exact Has.nz3 _ _ _ _ _ _ _ | refine At.fill1 ?_ _ | refine At.fill2 ?_ _ _ | refine At.fill3 ?_ _ _ _ | refine At.swap ?_ (by first | omega | (simp; omega)) _ _ | refine At.alloc ?_ _ | refine At.drew ?_ | refine At.skip ?_ (by first | omega | (simp; omega)) _ _ | refine At.below (by assumption) ?_ | refine Has.alloc ?_ _ | refine Has.drew ?_ | refine Has.set ?_ _ _ _ | refine Has.below (by assumption) ?_)); done)))
    ((go_at_call 34; with_reducible refine (HSa.out _).mono ?_; rintro e w5 ⟨rfl, hB⟩; (with_reducible first | replace hB := undr hB | skip); replace HC := Gr.step HC hB; replace PA := At.below hB PA; replace QA := At.below hB QA; replace RA := At.below hB RA; clear hB))
  go_wp2_with fail
  go_region_held (fun w' => w'.cell? ⟨w.heap.size + 1, 0, none⟩ = some (.int .i64 bn) ∧ w'.cell? ⟨w.heap.size + 1, 1, none⟩ = some (.int .i64 bd))
    ((refine At.c2 (a := .int .i64 bn) (b := .int .i64 bd) ?_; ((with_reducible repeat' (first | assumption | exact At.new1 _ _ _ | exact At.new2 _ _ _ _ | exact At.new3 _ _ _ _ _ | exact At.nx1 _ _ _ | exact At.nx2 _ _ _ _ | exact At.nx3 _ _ _ _ _ | exact At.ny1 _ _ _ _ | exact At.ny2 _ _ _ _ _ | exact At.ny3 _ _ _ _ _ _ | exact At.nz1 _ _ _ _ _ | exact At.nz2 _ _ _ _ _ _ | exact At.nz3 _ _ _ _ _ _ _ | exact Has.new1 _ _ _ | exact Has.new2 _ _ _ _ | exact Has.new3 _ _ _ _ _ | exact Has.nx1 _ _ _ | exact Has.nx2 _ _ _ _ | exact Has.nx3 _ _ _ _ _ | exact Has.ny1 _ _ _ _ | exact Has.ny2 _ _ _ _ _ | exact Has.ny3 _ _ _ _ _ _ | exact Has.nz1 _ _ _ _ _ | exact Has.nz2 _ _ _ _ _ _ | exact Has.nz3 _ _ _ _ _ _ _ | refine At.fill1 ?_ _ | refine At.fill2 ?_ _ _ | refine At.fill3 ?_ _ _ _ | refine At.swap ?_ (by first | omega | (simp; omega)) _ _ | refine At.alloc ?_ _ | refine At.drew ?_ | refine At.skip ?_ (by first | omega | (simp; omega)) _ _ | refine At.below (by assumption) ?_ | refine Has.alloc ?_ _ | refine Has.drew ?_ | refine Has.set ?_ _ _ _ | refine Has.below (by assumption) ?_)); done)))
    ((go_at_call 34; with_reducible refine (HSb.out _).mono ?_; rintro e w5 ⟨rfl, hB⟩; (with_reducible first | replace hB := undr hB | skip); replace HC := Gr.step HC hB; replace PA := At.below hB PA; replace QA := At.below hB QA; replace RA := At.below hB RA; clear hB))
  go_wp2_with fail
  refine (HG1.out _).mono ?_
  rintro e w6 ⟨rfl, hB⟩
  replace HC := Gr.step HC hB
  replace PA := At.below hB PA
  replace QA := At.below hB QA
  replace RA := At.below hB RA
  clear hB
  go_wp2_with fail
  refine (HG2.out _).mono ?_
  rintro e w7 ⟨rfl, hB⟩
  replace HC := Gr.step HC hB
  replace PA := At.below hB PA
  replace QA := At.below hB QA
  replace RA := At.below hB RA
  clear hB
  clear HG1 HG2 HSa HSb
  go_wp2_with fail
  go_region_held (fun w' => w'.cell? ⟨w.heap.size, 0, none⟩ = some (.int .i64 an) ∧ w'.cell? ⟨w.heap.size, 1, none⟩ = some (.int .i64 ad) ∧ w'.cell? ⟨w.heap.size + 1, 0, none⟩ = some (.int .i64 bn) ∧ w'.cell? ⟨w.heap.size + 1, 1, none⟩ = some (.int .i64 bd))
    ((first | (refine s222 (a := .int .i64 an) (b := .int .i64 ad) (c := .int .i64 bn) (d := .int .i64 bd) ?_ ?_; all_goals ((with_reducible repeat' (first | assumption | exact At.new1 _ _ _ | exact At.new2 _ _ _ _ | exact At.new3 _ _ _ _ _ | exact At.nx1 _ _ _ | exact At.nx2 _ _ _ _ | exact At.nx3 _ _ _ _ _ | exact At.ny1 _ _ _ _ | exact At.ny2 _ _ _ _ _ | exact At.ny3 _ _ _ _ _ _ | exact At.nz1 _ _ _ _ _ | exact At.nz2 _ _ _ _ _ _ | exact At.nz3 _ _ _ _ _ _ _ | exact Has.new1 _ _ _ | exact Has.new2 _ _ _ _ | exact Has.new3 _ _ _ _ _ | exact Has.nx1 _ _ _ | exact Has.nx2 _ _ _ _ | exact Has.nx3 _ _ _ _ _ | exact Has.ny1 _ _ _ _ | exact Has.ny2 _ _ _ _ _ | exact Has.ny3 _ _ _ _ _ _ | exact Has.nz1 _ _ _ _ _ | exact Has.nz2 _ _ _ _ _ _ | exact Has.nz3 _ _ _ _ _ _ _ | refine At.fill1 ?_ _ | refine At.fill2 ?_ _ _ | refine At.fill3 ?_ _ _ _ | refine At.swap ?_ (by first | omega | (simp; omega)) _ _ | refine At.alloc ?_ _ | refine At.drew ?_ | refine At.skip ?_ (by first | omega | (simp; omega)) _ _ | refine At.below (by assumption) ?_ | refine Has.alloc ?_ _ | refine Has.drew ?_ | refine Has.set ?_ _ _ _ | refine Has.below (by assumption) ?_)); done))))
    ((first
      | (go_at_call 69; (first | with_reducible refine (HM1'.out _).mono ?_ | with_reducible refine (HM2'.out _).mono ?_ | with_reducible refine (HM1.out _).mono ?_ | with_reducible refine (HM2.out _).mono ?_); rintro e w5 ⟨rfl, hB⟩; (with_reducible first | replace hB := undr hB | skip); replace HC := Gr.step HC hB; replace PA := At.below hB PA; replace QA := At.below hB QA; replace RA := At.below hB RA; clear hB)
      | (go_at_call 36; refine (HB.out _ (hl.below (Gr.out (by ((with_reducible repeat' (first | assumption | refine Gr.drew ?_ | refine Gr.alloc ?_ _ | refine Gr.set ?_ (by first | omega | (simp; omega)) _ _ | exact Gr.refl _)); done))))).mono ?_; rintro e w5 ⟨rfl, hB⟩; (with_reducible first | replace hB := undr hB | skip); replace HC := Gr.step HC hB; replace PA := At.below hB PA; replace QA := At.below hB QA; replace RA := At.below hB RA; clear hB; obtain ⟨r0, r1⟩ := RA.c2; obtain ⟨f0, f1⟩ := RA.f2)))
  all_goals go_wp2
  all_goals exact bodyPost_ret (v := .tuple #[.agg #[.int .i64 X, .int .i64 Z], E]) (by simp [results, Tryd.results53, go_sem, r0, r1]) rfl ⟨rfl, (HC.set hge _ _).set hge _ _⟩
end Go.Proofs.YtgjjgicojedefaaDoor
