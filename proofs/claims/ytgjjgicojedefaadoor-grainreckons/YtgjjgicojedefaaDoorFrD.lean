/-
  grain.Floor, grain.Near.
-/
import Derived.Test.YtgjjgicojedefaaDoorFrC
import Derived.Test.YtgjjgicojedefaaDoorCode
namespace Go.Proofs.YtgjjgicojedefaaDoor
open Go.RowKit BG

abbrev errV (a : Nat → Addr) (i : Nat) : Value := .iface 173 (.pointer (some (a i)))
theorem right_no {n d : Int} (h1 : -9223372036854775808 ≤ n) (h2 : n ≤ 9223372036854775807) (hr : ¬ Rgt n d) (w : World) : Calls Tryd.prog 42 #[.agg #[.int .i64 n, .int .i64 d]] w fun e w' => e = .returned (.bool false) ∧ Below w.heap.size w w' := by
  have h := right_any n d h1 h2 w
  rw [decide_eq_false hr] at h
  exact h
theorem right_yes {n d : Int} (hr : Rgt n d) (w : World) : Calls Tryd.prog 42 #[.agg #[.int .i64 n, .int .i64 d]] w fun e w' => e = .returned (.bool true) ∧ Below w.heap.size w w' := by
  have := hr.1
  have h := right_any n d (by omega) (by omega) w
  rw [decide_eq_true hr] at h
  exact h
theorem floor_no (g : Nat → Addr) {n d : Int} (h1 : -9223372036854775808 ≤ n) (h2 : n ≤ 9223372036854775807) (hr : ¬ Rgt n d) (w : World) (hl : Laid w g) : Calls Tryd.prog 16 #[.agg #[.int .i64 n, .int .i64 d]] w fun e w' => e = .returned (.tuple #[.int .i64 0, errV g 2]) ∧ Below w.heap.size w w' := by
  have HR := hidb (fun w => right_no h1 h2 hr w)
  have hl1 := fun w1 hB => (hl.alloc (.cells #[.int .i64 n, .int .i64 d] 29)).below (w' := w1) hB
  clear hl
  go_enter Tryd.func16, Tryd.ntmps16
  go_wp2_with fail
  refine (HR.out _).mono ?_
  rintro e w1 ⟨rfl, hB⟩
  have HC := Gr.step ((Gr.refl w).alloc (.cells #[.int .i64 n, .int .i64 d] 29)) hB
  have cE : w1.cell? ⟨2, 0, none⟩ = some (errV g 2) := (hl1 w1 hB).cell 2 (by decide)
  clear hB hl1
  go_wp2
  go_quiet (fail)
  go_wp2
  go_ret2
  exact ⟨rfl, HC.drewN _⟩
theorem floor_ok {n d : Int} (hr : Rgt n d) (w : World) : Calls Tryd.prog 16 #[.agg #[.int .i64 n, .int .i64 d]] w fun e w' => e = .returned (.tuple #[.int .i64 (n / d), .nilIface]) ∧ Below w.heap.size w w' := by
  have HR := hidb (fun w => right_yes hr w)
  have HS := hidb (fun w => split_any n d hr.sml hr.1.1 hr.1.2.1 w)
  go_enter Tryd.func16, Tryd.ntmps16
  go_wp2_with fail
  refine (HR.out _).mono ?_
  rintro e w1 ⟨rfl, hB⟩
  have HC := Gr.step ((Gr.refl w).alloc (.cells #[.int .i64 n, .int .i64 d] 29)) hB
  have PA := At.below hB (At.new2 w (.int .i64 n) (.int .i64 d) 29)
  clear hB
  obtain ⟨p0, p1⟩ := PA.c2
  go_wp2_with fail
  refine (HS.out _).mono ?_
  rintro e w2 ⟨rfl, hB⟩
  replace HC := Gr.step HC hB
  clear hB
  go_wp2
  exact bodyPost_ret (v := .tuple #[.int .i64 (n / d), .nilIface]) (by simp [results, Tryd.results16, go_sem]) rfl ⟨rfl, HC⟩
theorem near_no (g : Nat → Addr) {n d : Int} (h1 : -9223372036854775808 ≤ n) (h2 : n ≤ 9223372036854775807) (hr : ¬ Rgt n d) (w : World) (hl : Laid w g) : Calls Tryd.prog 17 #[.agg #[.int .i64 n, .int .i64 d]] w fun e w' => e = .returned (.tuple #[.int .i64 0, errV g 2]) ∧ Below w.heap.size w w' := by
  have HR := hidb (fun w => right_no h1 h2 hr w)
  have hl1 := fun w1 hB => (hl.alloc (.cells #[.int .i64 n, .int .i64 d] 29)).below (w' := w1) hB
  clear hl
  go_enter Tryd.func17, Tryd.ntmps17
  go_wp2_with fail
  refine (HR.out _).mono ?_
  rintro e w1 ⟨rfl, hB⟩
  have HC := Gr.step ((Gr.refl w).alloc (.cells #[.int .i64 n, .int .i64 d] 29)) hB
  have cE : w1.cell? ⟨2, 0, none⟩ = some (errV g 2) := (hl1 w1 hB).cell 2 (by decide)
  clear hB hl1
  go_wp2
  go_quiet (fail)
  go_wp2
  go_ret2
  exact ⟨rfl, HC.drewN _⟩
set_option maxHeartbeats 1000000 in
theorem near_ok {n d : Int} (hr : Rgt n d) (w : World) : Calls Tryd.prog 17 #[.agg #[.int .i64 n, .int .i64 d]] w fun e w' => e = .returned (.tuple #[.int .i64 (nea n d), .nilIface]) ∧ Below w.heap.size w w' := by
  have HR := hidb (fun w => right_yes hr w)
  have HS := hidb (fun w => split_any n d hr.sml hr.1.1 hr.1.2.1 w)
  have HV : Hid (nea n d = if n % d < d - n % d then n / d else if d - n % d < n % d then n / d + 1 else if (n / d).tmod 2 = 0 then n / d else n / d + 1) := show _ = _ from rfl
  obtain ⟨_, q2, q3, q4, q5, _⟩ := fl_facts hr.sml hr.1.1
  have d1 := hr.1.1
  have d2 := hr.1.2.1
  generalize n / d = q at *
  generalize n % d = r at *
  go_enter Tryd.func17, Tryd.ntmps17
  go_wp2_with fail
  refine (HR.out _).mono ?_
  rintro e w1 ⟨rfl, hB⟩
  have HC := Gr.step ((Gr.refl w).alloc (.cells #[.int .i64 n, .int .i64 d] 29)) hB
  have PA := At.below hB (At.new2 w (.int .i64 n) (.int .i64 d) 29)
  clear hB
  obtain ⟨p0, p1⟩ := PA.c2
  go_wp2_with fail
  refine (HS.out _).mono ?_
  rintro e w2 ⟨rfl, hB⟩
  replace HC := Gr.step HC hB
  replace PA := At.below hB PA
  clear hB p0 p1 hr
  obtain ⟨p0, p1⟩ := PA.c2
  clear PA
  by_cases k1 : r < d - r
  · have HW : Hid (nea n d = q) := by rw [HV.out, if_pos k1]; rfl
    have k2 : ¬ d - r < r := by omega
    have k3 : ¬ r = d - r := by omega
    go_wp2
    exact bodyPost_ret (v := .tuple #[.int .i64 q, .nilIface]) (by simp [results, Tryd.results17, go_sem]) rfl ⟨by rw [HW.out], HC⟩
  by_cases k2 : d - r < r
  · have HW : Hid (nea n d = q + 1) := by rw [HV.out, if_neg k1, if_pos k2]; rfl
    go_wp2
    exact bodyPost_ret (v := .tuple #[.int .i64 (q + 1), .nilIface]) (by simp [results, Tryd.results17, go_sem]) rfl ⟨by rw [HW.out], HC⟩
  obtain rfl : d = r + r := by omega
  have k3 : r + r - r = r := by omega
  by_cases k4 : q.tmod 2 = 0
  · have HW : Hid (nea n (r + r) = q) := by rw [HV.out, if_neg k1, if_neg k2, if_pos k4]; rfl
    have k4b : (q.tmod 2 != 0) = false := by simp [k4]
    go_wp2
    exact bodyPost_ret (v := .tuple #[.int .i64 q, .nilIface]) (by simp [results, Tryd.results17, go_sem]) rfl ⟨by rw [HW.out], HC⟩
  · have HW : Hid (nea n (r + r) = q + 1) := by rw [HV.out, if_neg k1, if_neg k2, if_neg k4]; rfl
    have k4b : (q.tmod 2 != 0) = true := by simp [k4]
    go_wp2
    exact bodyPost_ret (v := .tuple #[.int .i64 (q + 1), .nilIface]) (by simp [results, Tryd.results17, go_sem]) rfl ⟨by rw [HW.out], HC⟩
end Go.Proofs.YtgjjgicojedefaaDoor
