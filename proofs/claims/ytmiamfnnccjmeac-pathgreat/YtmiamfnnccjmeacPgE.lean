/-
  The law PathGreat: its walk.
-/
import Derived.Test.YtmiamfnnccjmeacPgD
namespace Go.Proofs.Ytmiamfnnccjmeac
open Go.RowKit FB
attribute [local go_sem] run_store_float

theorem great_same (a b c d : Int) : greatV a b c d = greatR a b c d ∧ greatV a b c d = greatV c d a b := by
  obtain ⟨_, _, _, _, p, _, px, py, pz⟩ := pt_eqs a b
  obtain ⟨_, _, _, _, q, _, qx, qy, qz⟩ := pt_eqs c d
  exact ⟨gW_zz p q px py pz qx qy qz, gW_swap p q⟩
theorem great_quarter : greatV 0 0 0 90000000000 = 90000000000 ∨ greatV 0 0 0 90000000000 = 89999999999 := by decide +kernel
set_option maxHeartbeats 2000000 in
theorem pathGreat_walk (a b c d : Int) (w : World) : Calls Try.prog 3 #[.agg #[.int .i64 a, .int .i64 b], .agg #[.int .i64 c, .int .i64 d]] w fun e w' => e = .returned (.bool true) ∧ Below w.heap.size w w' := by
  have HQ : Hid (89999999999 ≤ greatV 0 0 0 90000000000 ∧ greatV 0 0 0 90000000000 ≤ 90000000000) := by
    rcases great_quarter with h | h <;> rw [h] <;> exact ⟨by decide, by decide⟩
  obtain ⟨e1, e2⟩ := great_same a b c d
  have HG := hid (fun w => great_any a b c d w)
  have HH := hid (fun w => great_any c d a b w)
  have HR := hid (fun w => greatOf_any a b c d w)
  rw [← e2] at HH
  rw [← e1] at HR
  have H0 := hid (fun w => great_any 0 0 0 90000000000 w)
  clear e1 e2
  generalize greatV a b c d = g at *
  generalize greatV 0 0 0 90000000000 = q at *
  have q1 : ¬ q < 89999999999 := by have := HQ.out; omega
  have q2 : ¬ 90000000000 < q := by have := HQ.out; omega
  have g1 : (g == g) = true := by simp
  clear HQ
  go_enter Try.func3, Try.ntmps3
  go_wp2_with fail
  refine (H0.out _).mono ?_
  rintro e w1 ⟨rfl, hB⟩
  have HC := Gr.step (((Gr.refl w).alloc (.cells #[.int .i64 a, .int .i64 b] 23)).alloc (.cells #[.int .i64 c, .int .i64 d] 23)) hB
  have PA := At.below hB ((At.new2 w (.int .i64 a) (.int .i64 b) 23).alloc (.cells #[.int .i64 c, .int .i64 d] 23))
  have QA := At.below hB (At.nx2 (W := w) (.cells #[.int .i64 a, .int .i64 b] 23) (.int .i64 c) (.int .i64 d) 23)
  clear hB
  obtain ⟨p0, p1⟩ := PA.c2
  obtain ⟨r0, r1⟩ := QA.c2
  go_wp2_with fail
  refine (HG.out _).mono ?_
  rintro e w2 ⟨rfl, hB⟩
  replace HC := Gr.step HC hB
  replace PA := At.below hB PA
  replace QA := At.below hB QA
  clear hB p0 p1 r0 r1
  obtain ⟨p0, p1⟩ := PA.c2
  obtain ⟨r0, r1⟩ := QA.c2
  go_wp2_with fail
  refine (HR.out _).mono ?_
  rintro e w3 ⟨rfl, hB⟩
  replace HC := Gr.step HC hB
  replace PA := At.below hB PA
  replace QA := At.below hB QA
  clear hB p0 p1 r0 r1
  obtain ⟨p0, p1⟩ := PA.c2
  obtain ⟨r0, r1⟩ := QA.c2
  go_wp2_with fail
  refine (HH.out _).mono ?_
  rintro e w4 ⟨rfl, hB⟩
  replace HC := Gr.step HC hB
  go_wp2
  go_ret
  exact ⟨rfl, HC⟩
end Go.Proofs.Ytmiamfnnccjmeac
