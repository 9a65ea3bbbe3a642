/-
  mercatorlaw2.zoned; points of a box are on a sheet.
-/
import Derived.Test.YthpbkomchdgneaaDoorQGsF
namespace Go.Proofs.YthpbkomchdgneaaDoor
open Go.RowKit

theorem norm_c (n : Int) (h1 : 0 ≤ n) (h2 : n < 360000000000) (w : World) : Calls Tryd.prog 27 #[.int .i64 n] w fun e w' => e = .returned (.int .i64 n) ∧ w' = w := by
  have e1 : n.tmod 360000000000 = n := by rw [Int.tmod_eq_emod_of_nonneg h1, Int.emod_eq_of_lt h1 h2]
  have e2 : ¬ n < 0 := by omega
  have e3 : IntKind.i64.wrap n = n := wr64 (by omega) (by omega)
  clear h1 h2
  go_enter Tryd.func27, Tryd.ntmps27
  go_wp2
  go_ret
  exact ⟨rfl, rfl⟩
theorem zone_c (w : World) : Calls Tryd.prog 19 #[.int .i64 3000000000] w fun e w' => e = .returned (.int .i64 31) ∧ w' = w := by
  have H1 := hidb (fun w => norm_c 3000000000 (by decide) (by decide) w)
  have H2 := hidb (fun w => norm_c 183000000000 (by decide) (by decide) w)
  go_enter Tryd.func19, Tryd.ntmps19
  go_wp2_with fail
  refine (H1.out _).mono ?_
  rintro e w1 ⟨rfl, rfl⟩
  go_wp2_with fail
  refine (H2.out _).mono ?_
  rintro e w1 ⟨rfl, rfl⟩
  go_wp2
  go_ret
  exact ⟨rfl, rfl⟩
theorem middle_c (w : World) : Calls Tryd.prog 18 #[.int .i64 31] w fun e w' => e = .returned (.tuple #[.int .i64 3000000000, .nilIface]) ∧ w' = w := by
  go_enter Tryd.func18, Tryd.ntmps18
  go_wp2
  go_ret2
  exact ⟨rfl, rfl⟩
theorem zoned_any (w : World) : Calls Tryd.prog 6 #[] w fun e w' => e = .returned (.bool true) ∧ w' = w := by
  have H1 := hidb middle_c
  have H2 := hidb zone_c
  go_enter Tryd.func6, Tryd.ntmps6
  go_wp2_with fail
  refine (H1.out _).mono ?_
  rintro e w1 ⟨rfl, rfl⟩
  go_wp2_with fail
  refine (H2.out _).mono ?_
  rintro e w1 ⟨rfl, rfl⟩
  go_wp2
  go_ret
  exact ⟨rfl, rfl⟩
/-- The column of a point of the box. -/
theorem col_of {lo hi wide x : Int} (h : lo ≤ hi) (hw : 1 ≤ wide) (h1 : lo ≤ x) (h2 : x ≤ hi) : ∃ k : Nat, k < cnt lo hi wide ∧ lo + (k : Int) * wide ≤ x ∧ x ≤ lo + (k : Int) * wide + wide - 1 := by
  have e : wide * ((x - lo) / wide) + (x - lo) % wide = x - lo := by have := Int.emod_def (x - lo) wide; omega
  have m1 := Int.emod_nonneg (x - lo) (show wide ≠ 0 by omega)
  have m2 := Int.emod_lt_of_pos (x - lo) (show 0 < wide by omega)
  have p0 : (0 : Int) ≤ (x - lo) / wide := Int.ediv_nonneg (by omega) (by omega)
  obtain ⟨k, hk⟩ : ∃ k : Nat, (k : Int) = (x - lo) / wide := ⟨((x - lo) / wide).toNat, by omega⟩
  rw [← hk, Int.mul_comm] at e
  refine ⟨k, (cnt_iff h hw k).2 (by omega), by omega, by omega⟩
theorem on_some {a b c d wide high lap px py : Int} (f : Fine a b c d wide high lap) (h1 : a ≤ px) (h2 : px ≤ c) (h3 : b ≤ py) (h4 : py ≤ d) : 0 < (onI (shL a b wide high lap (cnt a c wide) (cnt b d high * cnt a c wide)) px py (cnt b d high * cnt a c wide)).length := by
  obtain ⟨k, k1, k2, k3⟩ := col_of f.ac f.w1 h1 h2
  obtain ⟨r, r1, r2, r3⟩ := col_of f.bd f.h1 h3 h4
  have l1 := f.l1
  generalize cnt a c wide = cols at *
  generalize cnt b d high = rows at *
  have hlt : r * cols + k < rows * cols := by
    have : (r + 1) * cols ≤ rows * cols := Nat.mul_le_mul_right cols r1
    rw [Nat.add_mul] at this
    omega
  have hon : onAt (shL a b wide high lap cols (rows * cols)) px py (r * cols + k) = true := by
    have hl : r * cols + k < (shL a b wide high lap cols (rows * cols)).length := by rw [shL_len]; exact hlt
    rw [onAt_get hl]
    have : (shL a b wide high lap cols (rows * cols))[r * cols + k] = shOf a b wide high lap cols (r * cols + k) := by simp [shL]
    rw [this, shOf_at a b wide high lap k1]
    unfold onB inI
    simp only [Bool.and_eq_true, decide_eq_true_eq]
    omega
  have hm : ((r * cols + k : Nat) : Int) ∈ onI (shL a b wide high lap cols (rows * cols)) px py (rows * cols) := by
    unfold onI
    refine List.mem_map.2 ⟨r * cols + k, List.mem_filter.2 ⟨List.mem_range.2 hlt, hon⟩, rfl⟩
  exact List.length_pos_of_mem hm
end Go.Proofs.YthpbkomchdgneaaDoor
