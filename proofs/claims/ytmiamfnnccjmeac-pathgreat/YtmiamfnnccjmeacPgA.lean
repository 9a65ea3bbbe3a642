/-
  path.sidesOf, path.angleOf, mercatorref2.angle, mercatorref2.pointOf, Less, Plus.
-/
import Derived.Test.YtmiamfnnccjmeacPgN
import Derived.Test.YtmiamfnnccjmeacMem
import Derived.Deep.RegionHeld3
import Derived.Deep.CutRange
namespace Go.Proofs.Ytmiamfnnccjmeac
open Go.RowKit FB
attribute [local go_sem] run_store_float

theorem angle2_any (y x : Nat) (hy : y < 18446744073709551616) (hx : x < 18446744073709551616) (w : World) : Calls Try.prog 12 #[.float .f64 y, .float .f64 x] w fun e w' => e = .returned (.int .i64 (angV y x).1) ∧ Below w.heap.size w w' := by
  have HA := hid (fun w => angleOf_any y x hy hx w)
  clear hy hx
  go_enter Try.func12, Try.ntmps12
  go_wp2_with fail
  refine (HA.out _).mono ?_
  rintro e w1 ⟨rfl, hB⟩
  go_wp2
  go_ret
  exact ⟨rfl, hB⟩
theorem angleP_any (y x : Nat) (hy : y < 18446744073709551616) (hx : x < 18446744073709551616) (w : World) : Calls Try.prog 7 #[.float .f64 y, .float .f64 x] w fun e w' => e = .returned (.int .i64 (angV y x).1) ∧ Below w.heap.size w w' := by
  have HA := hid (fun w => angle_any y x hy hx w)
  clear hy hx
  go_enter Try.func7, Try.ntmps7
  go_wp2_with fail
  refine (HA.out _).mono ?_
  rintro e w1 ⟨rfl, hB⟩
  go_wp2
  go_ret
  exact ⟨rfl, hB⟩
theorem less_num {s a b m r : Nat} (h1 : Ieee.double.mul a b = some m) (h2 : Ieee.double.sub s m = some r) (w : World) : Calls Try.prog 10 #[.float .f64 s, .float .f64 a, .float .f64 b] w fun e w' => e = .returned (.float .f64 r) ∧ w' = w := by
  have e1 := fun w => hmul h1 w
  have e2 := fun w => hsub h2 w
  go_enter Try.func10, Try.ntmps10
  go_wp2
  go_ret
  exact ⟨rfl, rfl⟩
theorem plus_num {s a b m r : Nat} (h1 : Ieee.double.mul a b = some m) (h2 : Ieee.double.add s m = some r) (w : World) : Calls Try.prog 11 #[.float .f64 s, .float .f64 a, .float .f64 b] w fun e w' => e = .returned (.float .f64 r) ∧ w' = w := by
  have e1 := fun w => hmul h1 w
  have e2 := fun w => hadd h2 w
  go_enter Try.func11, Try.ntmps11
  go_wp2
  go_ret
  exact ⟨rfl, rfl⟩
set_option maxHeartbeats 1000000 in
theorem sidesOf_any (a : Int) (w : World) : Calls Try.prog 14 #[.int .i64 a] w fun e w' => e = .returned (.agg #[.float .f64 (uz (sinV (nrm a))), .float .f64 (uz (cosV (nrm a)))]) ∧ Below w.heap.size w w' ∧ w.heap.size < w'.heap.size := by
  go_enter Try.func14, Try.ntmps14
  go_wp2_with fail
  refine (sin_any _ _).mono ?_
  rintro e w1 ⟨rfl, hB⟩
  obtain ⟨hc, hf⟩ := mcell hB
  obtain ⟨d0, d1, f0, f1, lt⟩ : w1.cell? ⟨w.heap.size, 0, none⟩ = some (.float .f64 0) ∧ w1.cell? ⟨w.heap.size, 1, none⟩ = some (.float .f64 0) ∧ w1.frozen? ⟨w.heap.size, 0, none⟩ = false ∧ w1.frozen? ⟨w.heap.size, 1, none⟩ = false ∧ w.heap.size < w1.heap.size := ⟨by rw [hc _ _ (by simp)]; simp [go_sem], by rw [hc _ _ (by simp)]; simp [go_sem], by rw [hf _ _ (by simp)]; simp [go_sem], by rw [hf _ _ (by simp)]; simp [go_sem], by have := hB.size; simp at this; omega⟩
  have HC := mt ((Below.refl _ _).alloc (Nat.le_refl _) _) hB
  clear hB hc hf
  go_wp2_with fail
  refine (cos_any _ _).mono ?_
  rintro e w2 ⟨rfl, hB⟩
  obtain ⟨hc, hf⟩ := mcell hB
  replace d0 := (hc _ 0 lt).trans d0
  replace d1 := (hc _ 1 lt).trans d1
  replace f0 := (hf _ 0 lt).trans f0
  replace f1 := (hf _ 1 lt).trans f1
  replace lt := Nat.lt_of_lt_of_le lt hB.size
  replace HC := mt HC hB
  clear hB hc hf
  go_wp2
  exact bodyPost_ret (v := .agg #[.float .f64 (uz (sinV (nrm a))), .float .f64 (uz (cosV (nrm a)))]) (by simp [results, Try.results14, go_sem, d0, d1]) rfl ⟨rfl, (HC.setCell (by simp) _).setCell (by simp) _, by simpa using lt⟩
set_option maxHeartbeats 1000000 in
theorem pointOf_any (lon lat : Int) (w : World) : Calls Try.prog 9 #[.agg #[.int .i64 lon, .int .i64 lat]] w fun e w' => e = .returned (.agg #[.float .f64 (prX lon lat), .float .f64 (prY lon lat), .float .f64 (prZ lat)]) ∧ Below w.heap.size w w' := by
  obtain ⟨_, _, q1, q2, _⟩ := pt_eqs lon lat
  have e1 := fun w => hmul q1 w
  have e2 := fun w => hmul q2 w
  clear q1 q2
  go_enter Try.func9, Try.ntmps9
  go_wp2_with (go_at_call 17; refine (sinCos_any _ _).mono ?_; rintro e w1 ⟨rfl, rfl⟩)
  exact bodyPost_ret (v := .agg #[.float .f64 (prX lon lat), .float .f64 (prY lon lat), .float .f64 (prZ lat)]) (by simp [results, Try.results9, go_sem]; rfl) rfl ⟨rfl, ((Below.refl _ _).alloc (Nat.le_refl _) _).alloc (by simp) _⟩
end Go.Proofs.Ytmiamfnnccjmeac
