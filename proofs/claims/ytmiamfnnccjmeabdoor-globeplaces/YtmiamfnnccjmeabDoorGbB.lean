/-
  Globes: valid ones, and those known by name.
-/
import Derived.Test.YtmiamfnnccjmeabDoorGbA
namespace Go.Proofs.YtmiamfnnccjmeabDoor
open Go.RowKit FB
attribute [local go_sem] run_store_float

theorem within1 (lo hi b x : Nat) (w : World) (hw : w.cell? ⟨b, 0, none⟩ = some (.float .f64 x)) : Calls Tryd.prog 26 #[.float .f64 lo, .float .f64 hi, .slice (some ⟨b, 0, none⟩) 1 1] w fun e w' => e = .returned (.bool (inB lo hi x)) ∧ w' = w := by
  have := within_any lo hi b [x] (by simp) w (by intro i hi; obtain rfl : i = 0 := by simp at hi; omega
                                                 exact hw)
  simpa using this
/-- An error of errors.New's make. -/
abbrev errV (a : Nat → Addr) (i : Nat) : Value := .iface 119 (.pointer (some (a i)))
set_option maxHeartbeats 1000000 in
theorem valid_no1 (s : Nat → Addr) (a f : Nat) (h1 : inB 4607182418800017408 4741671816366391296 a = false) (w : World) (hl : Laid w s) : Calls Tryd.prog 11 #[.agg #[.float .f64 a, .float .f64 f]] w fun e w' => e = .returned (errV s 2) ∧ Below w.heap.size w w' := by
  go_enter Tryd.func11, Tryd.ntmps11
  go_wp2_with fail
  refine (within1 _ _ _ a _ (by simp [go_sem])).mono ?_
  rintro e w1 ⟨rfl, hw1⟩
  have cg : w1.cell? ⟨1, 0, none⟩ = some (.iface 119 (.pointer (some (s 2)))) := by rw [hw1]; exact ((hl.alloc _).alloc _).cell 2 (by decide)
  have hB : Below w.heap.size w w1 := by rw [hw1]; exact ((Below.refl _ _).alloc (Nat.le_refl _) _).alloc (by simp) _
  clear hw1 hl
  go_wp2
  go_ret
  exact ⟨rfl, hB⟩
set_option maxHeartbeats 1000000 in
theorem valid_no2 (s : Nat → Addr) (a f : Nat) (h1 : inB 4607182418800017408 4741671816366391296 a = true) (h2 : inB 0 4598175219545276416 f = false) (w : World) (hl : Laid w s) : Calls Tryd.prog 11 #[.agg #[.float .f64 a, .float .f64 f]] w fun e w' => e = .returned (errV s 2) ∧ Below w.heap.size w w' := by
  go_enter Tryd.func11, Tryd.ntmps11
  go_wp2_with fail
  refine (within1 _ _ _ a _ (by simp [go_sem])).mono ?_
  rintro e w1 ⟨rfl, rfl⟩
  go_wp2_with fail
  refine (within1 _ _ _ f _ (by simp [go_sem])).mono ?_
  rintro e w1 ⟨rfl, hw1⟩
  have cg : w1.cell? ⟨1, 0, none⟩ = some (.iface 119 (.pointer (some (s 2)))) := by rw [hw1]; exact (((hl.alloc _).alloc _).alloc _).cell 2 (by decide)
  have hB : Below w.heap.size w w1 := by rw [hw1]; exact (((Below.refl _ _).alloc (Nat.le_refl _) _).alloc (by simp) _).alloc (by simp; omega) _
  clear hw1 hl
  go_wp2
  go_ret
  exact ⟨rfl, hB⟩
set_option maxHeartbeats 1000000 in
theorem valid_yes (a f : Nat) (h1 : inB 4607182418800017408 4741671816366391296 a = true) (h2 : inB 0 4598175219545276416 f = true) (w : World) : Calls Tryd.prog 11 #[.agg #[.float .f64 a, .float .f64 f]] w fun e w' => e = .returned .nilIface ∧ Below w.heap.size w w' := by
  go_enter Tryd.func11, Tryd.ntmps11
  go_wp2_with fail
  refine (within1 _ _ _ a _ (by simp [go_sem])).mono ?_
  rintro e w1 ⟨rfl, rfl⟩
  go_wp2_with fail
  refine (within1 _ _ _ f _ (by simp [go_sem])).mono ?_
  rintro e w1 ⟨rfl, rfl⟩
  go_wp2
  go_ret
  exact ⟨rfl, (((Below.refl _ _).alloc (Nat.le_refl _) _).alloc (by simp) _).alloc (by simp; omega) _⟩
theorem valid_ok (a f : Nat) (h : okG a f = true) (w : World) : Calls Tryd.prog 11 #[.agg #[.float .f64 a, .float .f64 f]] w fun e w' => e = .returned .nilIface ∧ Below w.heap.size w w' := by
  unfold okG at h
  rw [Bool.and_eq_true] at h
  exact valid_yes a f h.1 h.2 w
theorem valid_no (s : Nat → Addr) (a f : Nat) (h : okG a f = false) (w : World) (hl : Laid w s) : Calls Tryd.prog 11 #[.agg #[.float .f64 a, .float .f64 f]] w fun e w' => e = .returned (errV s 2) ∧ Below w.heap.size w w' := by
  unfold okG at h
  cases h1 : inB 4607182418800017408 4741671816366391296 a with
  | false => exact valid_no1 s a f h1 w hl
  | true => rw [h1] at h; exact valid_no2 s a f h1 h w hl

set_option maxHeartbeats 1000000 in
theorem known_0 (s : ByteArray) (t0 : (s.toList == [119, 103, 115, 56, 52]) = true) (w : World) : Calls Tryd.prog 6 #[.string s] w fun e w' => e = .returned (.tuple #[.agg #[.float .f64 4708606483430899712, .float .f64 4569877477558837545], .nilIface]) ∧ Below w.heap.size w w' := by
  go_enter Tryd.func6, Tryd.ntmps6
  go_wp2
  exact bodyPost_ret (v := .tuple #[.agg #[.float .f64 4708606483430899712, .float .f64 4569877477558837545], .nilIface]) (by simp [results, Tryd.results6, go_sem]) rfl ⟨rfl, (Below.refl _ _).alloc (Nat.le_refl _) _⟩
set_option maxHeartbeats 1000000 in
theorem known_1 (s : ByteArray) (t0 : (s.toList == [119, 103, 115, 56, 52]) = false) (t1 : (s.toList == [103, 114, 115, 56, 48]) = true) (w : World) : Calls Tryd.prog 6 #[.string s] w fun e w' => e = .returned (.tuple #[.agg #[.float .f64 4708606483430899712, .float .f64 4569877477596733701], .nilIface]) ∧ Below w.heap.size w w' := by
  go_enter Tryd.func6, Tryd.ntmps6
  go_wp2
  exact bodyPost_ret (v := .tuple #[.agg #[.float .f64 4708606483430899712, .float .f64 4569877477596733701], .nilIface]) (by simp [results, Tryd.results6, go_sem]) rfl ⟨rfl, (Below.refl _ _).alloc (Nat.le_refl _) _⟩
set_option maxHeartbeats 1000000 in
theorem known_2 (s : ByteArray) (t0 : (s.toList == [119, 103, 115, 56, 52]) = false) (t1 : (s.toList == [103, 114, 115, 56, 48]) = false) (t2 : (s.toList == [98, 101, 115, 115, 101, 108]) = true) (w : World) : Calls Tryd.prog 6 #[.string s] w fun e w' => e = .returned (.tuple #[.agg #[.float .f64 4708605689028379935, .float .f64 4569854332699817238], .nilIface]) ∧ Below w.heap.size w w' := by
  go_enter Tryd.func6, Tryd.ntmps6
  go_wp2
  exact bodyPost_ret (v := .tuple #[.agg #[.float .f64 4708605689028379935, .float .f64 4569854332699817238], .nilIface]) (by simp [results, Tryd.results6, go_sem]) rfl ⟨rfl, (Below.refl _ _).alloc (Nat.le_refl _) _⟩
set_option maxHeartbeats 1000000 in
theorem known_3 (s : ByteArray) (t0 : (s.toList == [119, 103, 115, 56, 52]) = false) (t1 : (s.toList == [103, 114, 115, 56, 48]) = false) (t2 : (s.toList == [98, 101, 115, 115, 101, 108]) = false) (t3 : (s.toList == [97, 105, 114, 121]) = true) (w : World) : Calls Tryd.prog 6 #[.string s] w fun e w' => e = .returned (.tuple #[.agg #[.float .f64 4708605867528294498, .float .f64 4569849899622835569], .nilIface]) ∧ Below w.heap.size w w' := by
  go_enter Tryd.func6, Tryd.ntmps6
  go_wp2
  exact bodyPost_ret (v := .tuple #[.agg #[.float .f64 4708605867528294498, .float .f64 4569849899622835569], .nilIface]) (by simp [results, Tryd.results6, go_sem]) rfl ⟨rfl, (Below.refl _ _).alloc (Nat.le_refl _) _⟩
set_option maxHeartbeats 1000000 in
theorem known_4 (s : ByteArray) (t0 : (s.toList == [119, 103, 115, 56, 52]) = false) (t1 : (s.toList == [103, 114, 115, 56, 48]) = false) (t2 : (s.toList == [98, 101, 115, 115, 101, 108]) = false) (t3 : (s.toList == [97, 105, 114, 121]) = false) (t4 : (s.toList == [98, 97, 108, 108]) = true) (w : World) : Calls Tryd.prog 6 #[.string s] w fun e w' => e = .returned (.tuple #[.agg #[.float .f64 4708598820135501824, .float .f64 0], .nilIface]) ∧ Below w.heap.size w w' := by
  go_enter Tryd.func6, Tryd.ntmps6
  go_wp2
  exact bodyPost_ret (v := .tuple #[.agg #[.float .f64 4708598820135501824, .float .f64 0], .nilIface]) (by simp [results, Tryd.results6, go_sem]) rfl ⟨rfl, (Below.refl _ _).alloc (Nat.le_refl _) _⟩
set_option maxHeartbeats 1000000 in
theorem known_no (g : Nat → Addr) (s : ByteArray) (t0 : (s.toList == [119, 103, 115, 56, 52]) = false) (t1 : (s.toList == [103, 114, 115, 56, 48]) = false) (t2 : (s.toList == [98, 101, 115, 115, 101, 108]) = false) (t3 : (s.toList == [97, 105, 114, 121]) = false) (t4 : (s.toList == [98, 97, 108, 108]) = false) (w : World) (hl : Laid w g) : Calls Tryd.prog 6 #[.string s] w fun e w' => e = .returned (.tuple #[.agg #[.float .f64 0, .float .f64 0], errV g 4]) ∧ Below w.heap.size w w' := by
  have cg : (w.alloc (.cells #[.float .f64 0, .float .f64 0] 25)).cell? ⟨0, 0, none⟩ = some (.iface 119 (.pointer (some (g 4)))) := (hl.alloc _).cell 4 (by decide)
  have lg : 0 < w.heap.size := lt_of_cell (p := ⟨0, 0, none⟩) (hl.cell 4 (by decide))
  clear hl
  go_enter Tryd.func6, Tryd.ntmps6
  go_wp2
  go_region
  all_goals
    go_wp2
    exact bodyPost_ret (v := .tuple #[.agg #[.float .f64 0, .float .f64 0], errV g 4]) (by simp [results, Tryd.results6, go_sem]) rfl ⟨rfl, ((Below.refl _ _).alloc (Nat.le_refl _) _).drew⟩
set_option maxHeartbeats 2000000 in
theorem knownGlobe_0 (s : ByteArray) (t0 : (s.toList == [119, 103, 115, 56, 52]) = true) (w : World) : Calls Tryd.prog 7 #[.string s] w fun e w' => e = .returned (.tuple #[.agg #[.float .f64 4708606483430899712, .float .f64 4569877477558837545], .int .i64 0]) ∧ Below w.heap.size w w' := by
  have u0 : ([119, 103, 115, 56, 52] == s.toList) = true := by rw [← t0]; exact BEq.comm
  go_enter Tryd.func7, Tryd.ntmps7
  go_wp2
  refine wp_loop_rounds 1 ?_
  rw [rounds_succ]
  go_wp2
  go_region
  all_goals
    go_wp2
    exact bodyPost_ret (v := .tuple #[.agg #[.float .f64 4708606483430899712, .float .f64 4569877477558837545], .int .i64 0]) (by simp [results, Tryd.results7, go_sem]) rfl ⟨rfl, ((((((Below.refl _ _).alloc (Nat.le_refl _) _).alloc (by simp) _).alloc (by simp; omega) _).alloc (by simp; omega) _)).drew⟩
set_option maxHeartbeats 2000000 in
theorem knownGlobe_1 (s : ByteArray) (t0 : (s.toList == [119, 103, 115, 56, 52]) = false) (t1 : (s.toList == [103, 114, 115, 56, 48]) = true) (w : World) : Calls Tryd.prog 7 #[.string s] w fun e w' => e = .returned (.tuple #[.agg #[.float .f64 4708606483430899712, .float .f64 4569877477596733701], .int .i64 0]) ∧ Below w.heap.size w w' := by
  have u0 : ([119, 103, 115, 56, 52] == s.toList) = false := by rw [← t0]; exact BEq.comm
  have u1 : ([103, 114, 115, 56, 48] == s.toList) = true := by rw [← t1]; exact BEq.comm
  go_enter Tryd.func7, Tryd.ntmps7
  go_wp2
  refine wp_loop_rounds 2 ?_
  rw [rounds_succ]
  go_wp2
  rw [rounds_succ]
  go_wp2
  go_region
  all_goals
    go_wp2
    exact bodyPost_ret (v := .tuple #[.agg #[.float .f64 4708606483430899712, .float .f64 4569877477596733701], .int .i64 0]) (by simp [results, Tryd.results7, go_sem]) rfl ⟨rfl, ((((((Below.refl _ _).alloc (Nat.le_refl _) _).alloc (by simp) _).alloc (by simp; omega) _).alloc (by simp; omega) _)).drew⟩
set_option maxHeartbeats 2000000 in
theorem knownGlobe_2 (s : ByteArray) (t0 : (s.toList == [119, 103, 115, 56, 52]) = false) (t1 : (s.toList == [103, 114, 115, 56, 48]) = false) (t2 : (s.toList == [98, 101, 115, 115, 101, 108]) = true) (w : World) : Calls Tryd.prog 7 #[.string s] w fun e w' => e = .returned (.tuple #[.agg #[.float .f64 4708605689028379935, .float .f64 4569854332699817238], .int .i64 0]) ∧ Below w.heap.size w w' := by
  have u0 : ([119, 103, 115, 56, 52] == s.toList) = false := by rw [← t0]; exact BEq.comm
  have u1 : ([103, 114, 115, 56, 48] == s.toList) = false := by rw [← t1]; exact BEq.comm
  have u2 : ([98, 101, 115, 115, 101, 108] == s.toList) = true := by rw [← t2]; exact BEq.comm
  go_enter Tryd.func7, Tryd.ntmps7
  go_wp2
  refine wp_loop_rounds 3 ?_
  rw [rounds_succ]
  go_wp2
  rw [rounds_succ]
  go_wp2
  rw [rounds_succ]
  go_wp2
  go_region
  all_goals
    go_wp2
    exact bodyPost_ret (v := .tuple #[.agg #[.float .f64 4708605689028379935, .float .f64 4569854332699817238], .int .i64 0]) (by simp [results, Tryd.results7, go_sem]) rfl ⟨rfl, ((((((Below.refl _ _).alloc (Nat.le_refl _) _).alloc (by simp) _).alloc (by simp; omega) _).alloc (by simp; omega) _)).drew⟩
set_option maxHeartbeats 2000000 in
theorem knownGlobe_3 (s : ByteArray) (t0 : (s.toList == [119, 103, 115, 56, 52]) = false) (t1 : (s.toList == [103, 114, 115, 56, 48]) = false) (t2 : (s.toList == [98, 101, 115, 115, 101, 108]) = false) (t3 : (s.toList == [97, 105, 114, 121]) = true) (w : World) : Calls Tryd.prog 7 #[.string s] w fun e w' => e = .returned (.tuple #[.agg #[.float .f64 4708605867528294498, .float .f64 4569849899622835569], .int .i64 0]) ∧ Below w.heap.size w w' := by
  have u0 : ([119, 103, 115, 56, 52] == s.toList) = false := by rw [← t0]; exact BEq.comm
  have u1 : ([103, 114, 115, 56, 48] == s.toList) = false := by rw [← t1]; exact BEq.comm
  have u2 : ([98, 101, 115, 115, 101, 108] == s.toList) = false := by rw [← t2]; exact BEq.comm
  have u3 : ([97, 105, 114, 121] == s.toList) = true := by rw [← t3]; exact BEq.comm
  go_enter Tryd.func7, Tryd.ntmps7
  go_wp2
  refine wp_loop_rounds 4 ?_
  rw [rounds_succ]
  go_wp2
  rw [rounds_succ]
  go_wp2
  rw [rounds_succ]
  go_wp2
  rw [rounds_succ]
  go_wp2
  go_region
  all_goals
    go_wp2
    exact bodyPost_ret (v := .tuple #[.agg #[.float .f64 4708605867528294498, .float .f64 4569849899622835569], .int .i64 0]) (by simp [results, Tryd.results7, go_sem]) rfl ⟨rfl, ((((((Below.refl _ _).alloc (Nat.le_refl _) _).alloc (by simp) _).alloc (by simp; omega) _).alloc (by simp; omega) _)).drew⟩
set_option maxHeartbeats 2000000 in
theorem knownGlobe_4 (s : ByteArray) (t0 : (s.toList == [119, 103, 115, 56, 52]) = false) (t1 : (s.toList == [103, 114, 115, 56, 48]) = false) (t2 : (s.toList == [98, 101, 115, 115, 101, 108]) = false) (t3 : (s.toList == [97, 105, 114, 121]) = false) (t4 : (s.toList == [98, 97, 108, 108]) = true) (w : World) : Calls Tryd.prog 7 #[.string s] w fun e w' => e = .returned (.tuple #[.agg #[.float .f64 4708598820135501824, .float .f64 0], .int .i64 0]) ∧ Below w.heap.size w w' := by
  have u0 : ([119, 103, 115, 56, 52] == s.toList) = false := by rw [← t0]; exact BEq.comm
  have u1 : ([103, 114, 115, 56, 48] == s.toList) = false := by rw [← t1]; exact BEq.comm
  have u2 : ([98, 101, 115, 115, 101, 108] == s.toList) = false := by rw [← t2]; exact BEq.comm
  have u3 : ([97, 105, 114, 121] == s.toList) = false := by rw [← t3]; exact BEq.comm
  have u4 : ([98, 97, 108, 108] == s.toList) = true := by rw [← t4]; exact BEq.comm
  go_enter Tryd.func7, Tryd.ntmps7
  go_wp2
  refine wp_loop_rounds 5 ?_
  rw [rounds_succ]
  go_wp2
  rw [rounds_succ]
  go_wp2
  rw [rounds_succ]
  go_wp2
  rw [rounds_succ]
  go_wp2
  rw [rounds_succ]
  go_wp2
  exact bodyPost_ret (v := .tuple #[.agg #[.float .f64 4708598820135501824, .float .f64 0], .int .i64 0]) (by simp [results, Tryd.results7, go_sem]) rfl ⟨rfl, ((((Below.refl _ _).alloc (Nat.le_refl _) _).alloc (by simp) _).alloc (by simp; omega) _).alloc (by simp; omega) _⟩
set_option maxHeartbeats 2000000 in
theorem knownGlobe_no (s : ByteArray) (t0 : (s.toList == [119, 103, 115, 56, 52]) = false) (t1 : (s.toList == [103, 114, 115, 56, 48]) = false) (t2 : (s.toList == [98, 101, 115, 115, 101, 108]) = false) (t3 : (s.toList == [97, 105, 114, 121]) = false) (t4 : (s.toList == [98, 97, 108, 108]) = false) (w : World) : Calls Tryd.prog 7 #[.string s] w fun e w' => e = .returned (.tuple #[.agg #[.float .f64 0, .float .f64 0], .int .i64 5]) ∧ Below w.heap.size w w' := by
  have u0 : ([119, 103, 115, 56, 52] == s.toList) = false := by rw [← t0]; exact BEq.comm
  have u1 : ([103, 114, 115, 56, 48] == s.toList) = false := by rw [← t1]; exact BEq.comm
  have u2 : ([98, 101, 115, 115, 101, 108] == s.toList) = false := by rw [← t2]; exact BEq.comm
  have u3 : ([97, 105, 114, 121] == s.toList) = false := by rw [← t3]; exact BEq.comm
  have u4 : ([98, 97, 108, 108] == s.toList) = false := by rw [← t4]; exact BEq.comm
  go_enter Tryd.func7, Tryd.ntmps7
  go_wp2
  refine wp_loop_rounds 5 ?_
  rw [rounds_succ]
  go_wp2
  rw [rounds_succ]
  go_wp2
  rw [rounds_succ]
  go_wp2
  rw [rounds_succ]
  go_wp2
  rw [rounds_succ]
  go_wp2
  exact bodyPost_ret (v := .tuple #[.agg #[.float .f64 0, .float .f64 0], .int .i64 5]) (by simp [results, Tryd.results7, go_sem]) rfl ⟨rfl, ((((Below.refl _ _).alloc (Nat.le_refl _) _).alloc (by simp) _).alloc (by simp; omega) _).alloc (by simp; omega) _⟩
end Go.Proofs.YtmiamfnnccjmeabDoor
