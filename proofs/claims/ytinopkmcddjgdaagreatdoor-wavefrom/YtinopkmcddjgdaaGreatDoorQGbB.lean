/-
  Globes: valid ones, and those known by name.
-/
import Derived.Test.YtinopkmcddjgdaaGreatDoorQGbA
namespace Go.Proofs.YtinopkmcddjgdaaGreatDoor
open Go.RowKit FB
attribute [local go_sem] run_store_float

theorem within1 (lo hi b x : Nat) (w : World) (hw : w.cell? ⟨b, 0, none⟩ = some (.float .f64 x)) : Calls Tryz.prog 59 #[.float .f64 lo, .float .f64 hi, .slice (some ⟨b, 0, none⟩) 1 1] w fun e w' => e = .returned (.bool (inB lo hi x)) ∧ w' = w := by
  have := within_any lo hi b [x] (by simp) w (by intro i hi; obtain rfl : i = 0 := by simp at hi; omega
                                                 exact hw)
  simpa using this
/-- An error of errors.New's make. -/
abbrev errV (a : Nat → Addr) (i : Nat) : Value := .iface 160 (.pointer (some (a i)))
set_option maxHeartbeats 1000000 in
theorem valid_no1 (s : Nat → Addr) (a f : Nat) (h1 : inB 4607182418800017408 4741671816366391296 a = false) (w : World) (hl : Laid w s) : Calls Tryz.prog 21 #[.agg #[.float .f64 a, .float .f64 f]] w fun e w' => e = .returned (errV s 2) ∧ Below w.heap.size w w' := by
  go_enter Tryz.func21, Tryz.ntmps21
  go_wp2_with fail
  refine (within1 _ _ _ a _ (by simp [go_sem])).mono ?_
  rintro e w1 ⟨rfl, hw1⟩
  have cg : w1.cell? ⟨0, 0, none⟩ = some (.iface 160 (.pointer (some (s 2)))) := by rw [hw1]; exact ((hl.alloc _).alloc _).cell 2 (by decide)
  have hB : Below w.heap.size w w1 := by rw [hw1]; exact ((Below.refl _ _).alloc (Nat.le_refl _) _).alloc (by simp) _
  clear hw1 hl
  go_wp2
  go_ret
  exact ⟨rfl, hB⟩
set_option maxHeartbeats 1000000 in
theorem valid_no2 (s : Nat → Addr) (a f : Nat) (h1 : inB 4607182418800017408 4741671816366391296 a = true) (h2 : inB 0 4598175219545276416 f = false) (w : World) (hl : Laid w s) : Calls Tryz.prog 21 #[.agg #[.float .f64 a, .float .f64 f]] w fun e w' => e = .returned (errV s 2) ∧ Below w.heap.size w w' := by
  go_enter Tryz.func21, Tryz.ntmps21
  go_wp2_with fail
  refine (within1 _ _ _ a _ (by simp [go_sem])).mono ?_
  rintro e w1 ⟨rfl, rfl⟩
  go_wp2_with fail
  refine (within1 _ _ _ f _ (by simp [go_sem])).mono ?_
  rintro e w1 ⟨rfl, hw1⟩
  have cg : w1.cell? ⟨0, 0, none⟩ = some (.iface 160 (.pointer (some (s 2)))) := by rw [hw1]; exact (((hl.alloc _).alloc _).alloc _).cell 2 (by decide)
  have hB : Below w.heap.size w w1 := by rw [hw1]; exact (((Below.refl _ _).alloc (Nat.le_refl _) _).alloc (by simp) _).alloc (by simp; omega) _
  clear hw1 hl
  go_wp2
  go_ret
  exact ⟨rfl, hB⟩
set_option maxHeartbeats 1000000 in
theorem valid_yes (a f : Nat) (h1 : inB 4607182418800017408 4741671816366391296 a = true) (h2 : inB 0 4598175219545276416 f = true) (w : World) : Calls Tryz.prog 21 #[.agg #[.float .f64 a, .float .f64 f]] w fun e w' => e = .returned .nilIface ∧ Below w.heap.size w w' := by
  go_enter Tryz.func21, Tryz.ntmps21
  go_wp2_with fail
  refine (within1 _ _ _ a _ (by simp [go_sem])).mono ?_
  rintro e w1 ⟨rfl, rfl⟩
  go_wp2_with fail
  refine (within1 _ _ _ f _ (by simp [go_sem])).mono ?_
  rintro e w1 ⟨rfl, rfl⟩
  go_wp2
  go_ret
  exact ⟨rfl, (((Below.refl _ _).alloc (Nat.le_refl _) _).alloc (by simp) _).alloc (by simp; omega) _⟩
theorem valid_ok (a f : Nat) (h : okG a f = true) (w : World) : Calls Tryz.prog 21 #[.agg #[.float .f64 a, .float .f64 f]] w fun e w' => e = .returned .nilIface ∧ Below w.heap.size w w' := by
  unfold okG at h
  rw [Bool.and_eq_true] at h
  exact valid_yes a f h.1 h.2 w
theorem valid_no (s : Nat → Addr) (a f : Nat) (h : okG a f = false) (w : World) (hl : Laid w s) : Calls Tryz.prog 21 #[.agg #[.float .f64 a, .float .f64 f]] w fun e w' => e = .returned (errV s 2) ∧ Below w.heap.size w w' := by
  unfold okG at h
  cases h1 : inB 4607182418800017408 4741671816366391296 a with
  | false => exact valid_no1 s a f h1 w hl
  | true => rw [h1] at h; exact valid_no2 s a f h1 h w hl

end Go.Proofs.YtinopkmcddjgdaaGreatDoor
