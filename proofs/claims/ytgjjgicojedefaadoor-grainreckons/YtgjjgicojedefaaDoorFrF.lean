/-
  grain.Cmp.
-/
import Derived.Test.YtgjjgicojedefaaDoorFrE
import Derived.Test.YtgjjgicojedefaaDoorFrD
namespace Go.Proofs.YtgjjgicojedefaaDoor
open Go.RowKit BG
attribute [local go_sem ↓] Go.wp_at_zero Go.wp_at_succ

theorem product_w {n d : Int} (hn : Sml n) (h1 : 1 ≤ d) (h2 : d ≤ 4611686018427387904) (w : World) : Calls Tryd.prog 43 #[.int .i64 n, .int .u64 (IntKind.u64.wrap d)] w fun e w' => e = .returned (W2 (n * d)) ∧ Below w.heap.size w w' := by
  unfold Sml at hn
  have h := product_any n d.toNat (by omega) (by omega) (by omega) w
  have e1 : ((d.toNat : Nat) : Int) = d := by omega
  have e2 : IntKind.u64.wrap d = d := by rw [IntKind.wrap_u64]; omega
  rw [e1] at h
  rw [e2]
  exact h
theorem cmp_no1 (g : Nat → Addr) {a b c d : Int} (h1 : -9223372036854775808 ≤ a) (h2 : a ≤ 9223372036854775807) (hr : ¬ Rgt a b) (w : World) (hl : Laid w g) : Calls Tryd.prog 15 #[.agg #[.int .i64 a, .int .i64 b], .agg #[.int .i64 c, .int .i64 d]] w fun e w' => e = .returned (.tuple #[.int .i64 0, errV g 2]) ∧ Below w.heap.size w w' := by
  have HR := hidb (fun w => right_no h1 h2 hr w)
  have hl1 := fun w1 hB => ((hl.alloc (.cells #[.int .i64 a, .int .i64 b] 29)).alloc (.cells #[.int .i64 c, .int .i64 d] 29)).below (w' := w1) hB
  clear hl
  go_enter Tryd.func15, Tryd.ntmps15
  go_wp2_with fail
  refine (HR.out _).mono ?_
  rintro e w1 ⟨rfl, hB⟩
  have HC := Gr.step (((Gr.refl w).alloc (.cells #[.int .i64 a, .int .i64 b] 29)).alloc (.cells #[.int .i64 c, .int .i64 d] 29)) hB
  have cE : w1.cell? ⟨2, 0, none⟩ = some (errV g 2) := (hl1 w1 hB).cell 2 (by decide)
  clear hB hl1
  go_wp2
  go_quiet (fail)
  go_wp2
  go_ret2
  exact ⟨rfl, HC.drewN _⟩
theorem cmp_no2 (g : Nat → Addr) {a b c d : Int} (h1 : -9223372036854775808 ≤ c) (h2 : c ≤ 9223372036854775807) (hq : Rgt a b) (hr : ¬ Rgt c d) (w : World) (hl : Laid w g) : Calls Tryd.prog 15 #[.agg #[.int .i64 a, .int .i64 b], .agg #[.int .i64 c, .int .i64 d]] w fun e w' => e = .returned (.tuple #[.int .i64 0, errV g 2]) ∧ Below w.heap.size w w' := by
  have HQ := hidb (fun w => right_yes hq w)
  have HR := hidb (fun w => right_no h1 h2 hr w)
  have hl1 := fun w1 hB => ((hl.alloc (.cells #[.int .i64 a, .int .i64 b] 29)).alloc (.cells #[.int .i64 c, .int .i64 d] 29)).below (w' := w1) hB
  clear hl
  go_enter Tryd.func15, Tryd.ntmps15
  go_wp2_with fail
  refine (HQ.out _).mono ?_
  rintro e w1 ⟨rfl, hB⟩
  have HC := Gr.step (((Gr.refl w).alloc (.cells #[.int .i64 a, .int .i64 b] 29)).alloc (.cells #[.int .i64 c, .int .i64 d] 29)) hB
  obtain ⟨q0, q1⟩ := (At.below hB (At.nx2 (W := w) (.cells #[.int .i64 a, .int .i64 b] 29) (.int .i64 c) (.int .i64 d) 29)).c2
  replace hl1 := hl1 w1 hB
  clear hB
  go_wp2_with fail
  refine (HR.out _).mono ?_
  rintro e w2 ⟨rfl, hB⟩
  replace HC := Gr.step HC hB
  have cE : w2.cell? ⟨2, 0, none⟩ = some (errV g 2) := (hl1.below hB).cell 2 (by decide)
  clear hB hl1 q0 q1
  go_wp2
  go_quiet (fail)
  go_wp2
  go_ret2
  exact ⟨rfl, HC.drewN _⟩
theorem sg_ci (x y : Int) : sg (x + -y) = ci x y := by
  unfold sg ci
  by_cases h1 : x < y
  · rw [if_pos (by omega), if_pos h1]
  · rw [if_neg (by omega), if_neg h1]
    by_cases h2 : y < x
    · rw [if_neg (by omega), if_pos h2]
    · rw [if_pos (by omega), if_neg h2]
theorem s_cmp {W : World} {A B C : Nat} {h l c d a b : Value} (hL : At W C [h, l]) (hQ : At W B [c, d]) (hP : At W A [a, b]) : W.cell? ⟨C, 0, none⟩ = some h ∧ W.cell? ⟨C, 1, none⟩ = some l ∧ W.cell? ⟨B, 0, none⟩ = some c ∧ W.cell? ⟨A, 1, none⟩ = some b := ⟨hL.c2.1, hL.c2.2, hQ.c2.1, hP.c2.2⟩
set_option maxRecDepth 4000 in
set_option maxHeartbeats 4000000 in
theorem cmp_ok {a b c d : Int} (hq : Rgt a b) (hr : Rgt c d) (w : World) : Calls Tryd.prog 15 #[.agg #[.int .i64 a, .int .i64 b], .agg #[.int .i64 c, .int .i64 d]] w fun e w' => e = .returned (.tuple #[.int .i64 (ci (a * d) (c * b)), .nilIface]) ∧ Below w.heap.size w w' := by
  have HQ := hidb (fun w => right_yes hq w)
  have HR := hidb (fun w => right_yes hr w)
  have HP := hidb (fun w => product_w hq.sml hr.1.1 hr.1.2.1 w)
  have HO := hidb (fun w => product_w hr.sml hq.1.1 hq.1.2.1 w)
  have hw : Wid (a * d + -(c * b)) := wid_add (prod_62 hq.sml hr.smd) (by rw [Int.natAbs_neg]; exact prod_62 hr.sml hq.smd)
  have HS := hidb (fun w => sign_any _ hw w)
  rw [sg_ci] at HS
  have HN := hidb (fun w => negated_any (c * b) w)
  have HA := hidb (fun w => plus_any (a * d) (-(c * b)) w)
  generalize ci (a * d) (c * b) = r at *
  generalize a * d + -(c * b) = s at *
  generalize -(c * b) = y' at *
  generalize a * d = x at *
  generalize c * b = y at *
  clear hw
  go_enter Tryd.func15, Tryd.ntmps15
  go_wp2_with fail
  refine (HQ.out _).mono ?_
  rintro e w1 ⟨rfl, hB⟩
  have HC := Gr.step (((Gr.refl w).alloc (.cells #[.int .i64 a, .int .i64 b] 29)).alloc (.cells #[.int .i64 c, .int .i64 d] 29)) hB
  have QA := At.below hB (At.nx2 (W := w) (.cells #[.int .i64 a, .int .i64 b] 29) (.int .i64 c) (.int .i64 d) 29)
  have PA := At.below hB ((At.new2 w (.int .i64 a) (.int .i64 b) 29).alloc (.cells #[.int .i64 c, .int .i64 d] 29))
  clear hB HQ
  obtain ⟨q0, q1⟩ := QA.c2
  go_wp2_with fail
  refine (HR.out _).mono ?_
  rintro e w2 ⟨rfl, hB⟩
  replace HC := Gr.step HC hB
  replace PA := At.below hB PA
  replace QA := At.below hB QA
  clear hB q0 q1 HR
  obtain ⟨p0, p1⟩ := PA.c2
  obtain ⟨q0, q1⟩ := QA.c2
  have e2 : IntKind.u64.wrap d = d := by have := hr.1; rw [IntKind.wrap_u64]; omega
  rw [e2] at HP
  clear e2
  have b1 : 0 ≤ d := by have := hr.1; omega
  have b2 : d < 18446744073709551616 := by have := hr.1; omega
  go_wp2_with fail
  refine (HP.out _).mono ?_
  rintro e w3 ⟨rfl, hB⟩
  replace HC := Gr.step HC hB
  replace PA := At.below hB PA
  replace QA := At.below hB QA
  clear hB HP p0 p1 q0 q1
  go_upto_region 4 with fail
  have LA := At.new2 w3 (.int .u64 (hi2 x)) (.int .u64 (lo2 x)) 70
  replace HC := HC.alloc (.cells #[.int .u64 (hi2 x), .int .u64 (lo2 x)] 70)
  replace PA := PA.alloc (.cells #[.int .u64 (hi2 x), .int .u64 (lo2 x)] 70)
  replace QA := QA.alloc (.cells #[.int .u64 (hi2 x), .int .u64 (lo2 x)] 70)
  generalize w3.alloc (.cells #[.int .u64 (hi2 x), .int .u64 (lo2 x)] 70) = w4 at *
  go_region_held (fun w' => w'.cell? ⟨w3.heap.size, 0, none⟩ = some (.int .u64 (hi2 x)) ∧ w'.cell? ⟨w3.heap.size, 1, none⟩ = some (.int .u64 (lo2 x)) ∧ w'.cell? ⟨w.heap.size + 1, 0, none⟩ = some (.int .i64 c) ∧ w'.cell? ⟨w.heap.size, 1, none⟩ = some (.int .i64 b))
    ((refine s_cmp (d := .int .i64 d) (a := .int .i64 a) ?_ ?_ ?_; all_goals ((with_reducible repeat' (first | assumption | exact At.new1 _ _ _ | exact At.new2 _ _ _ _ | exact At.new3 _ _ _ _ _ | exact At.nx1 _ _ _ | exact At.nx2 _ _ _ _ | exact At.nx3 _ _ _ _ _ | exact At.ny1 _ _ _ _ | exact At.ny2 _ _ _ _ _ | exact At.ny3 _ _ _ _ _ _ | exact At.nz1 _ _ _ _ _ | exact At.nz2 _ _ _ _ _ _ | exact At.nz3 _ _ _ _ _ _ _ | exact Has.new1 _ _ _ | exact Has.new2 _ _ _ _ | exact Has.new3 _ _ _ _ _ | exact Has.nx1 _ _ _ | exact Has.nx2 _ _ _ _ | exact Has.nx3 _ _ _ _ _ | exact Has.ny1 _ _ _ _ | exact Has.ny2 _ _ _ _ _ | exact Has.ny3 _ _ _ _ _ _ | exact Has.nz1 _ _ _ _ _ | exact Has.nz2 _ _ _ _ _ _ | exact Has.nz3 _ _ _ _ _ _ _ | refine At.fill1 ?_ _ | refine At.fill2 ?_ _ _ | refine At.fill3 ?_ _ _ _ | refine At.swap ?_ (by first | omega | (simp; omega)) _ _ | refine At.alloc ?_ _ | refine At.drew ?_ | refine At.skip ?_ (by first | omega | (simp; omega)) _ _ | refine At.below (by assumption) ?_ | refine Has.alloc ?_ _ | refine Has.drew ?_ | refine Has.set ?_ _ _ _ | refine Has.below (by assumption) ?_)); done)))
    ((first
      | (go_at_call 43; with_reducible refine (HO.out _).mono ?_; rintro e w5 ⟨rfl, hB⟩; (with_reducible first | replace hB := undr hB | skip); replace HC := Gr.step HC hB; replace PA := At.below hB PA; replace QA := At.below hB QA; replace LA := At.below hB LA)
      | (go_at_call 45; with_reducible refine (HN.out _).mono ?_; rintro e w5 ⟨rfl, hB⟩; (with_reducible first | replace hB := undr hB | skip); replace HC := Gr.step HC hB; replace PA := At.below hB PA; replace QA := At.below hB QA; replace LA := At.below hB LA)
      | (go_at_call 44; with_reducible refine (HA.out _).mono ?_; rintro e w5 ⟨rfl, hB⟩; (with_reducible first | replace hB := undr hB | skip); replace HC := Gr.step HC hB; replace PA := At.below hB PA; replace QA := At.below hB QA; replace LA := At.below hB LA)
      | (go_at_call 46; with_reducible refine (HS.out _).mono ?_; rintro e w5 ⟨rfl, hB⟩; (with_reducible first | replace hB := undr hB | skip); replace HC := Gr.step HC hB; replace PA := At.below hB PA; replace QA := At.below hB QA; replace LA := At.below hB LA)))
  go_wp2
  go_ret2
  exact ⟨rfl, HC⟩
end Go.Proofs.YtgjjgicojedefaaDoor
