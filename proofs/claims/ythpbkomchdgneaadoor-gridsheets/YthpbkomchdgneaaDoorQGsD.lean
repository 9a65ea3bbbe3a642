/-
  mercatorref2.SheetsOf.
-/
import Derived.Test.YthpbkomchdgneaaDoorQGsC
namespace Go.Proofs.YthpbkomchdgneaaDoor
open Go.RowKit

theorem infoT : (Tryd.prog.info? 47).map (fun i => (i.zero, i.size, i.bytes)) = some (some (.agg #[.int .i64 0, .int .i64 0, .int .i64 0, .int .i64 0, .int .i64 0, .int .i64 0]), 6, 48) := by kernel_rfl
theorem undT : Tryd.prog.underlying 40 = some (.slice 47) := by kernel_rfl
theorem okS_no {a b c d wide high lap : Int} (h : okS a b c d wide high lap = false) : (!okB a b c d || decide (wide < 1) || decide (33554432 < wide) || decide (high < 1) || decide (33554432 < high) || decide (lap < 0) || decide (16777216 < lap)) = true := by
  cases hk : okB a b c d with
  | false => simp
  | true =>
    unfold okS inI at h
    rw [hk] at h
    simp only [Bool.true_and, Bool.and_eq_false_iff, decide_eq_false_iff_not] at h
    simp only [Bool.not_true, Bool.false_or, Bool.or_eq_true, decide_eq_true_eq]
    omega
set_option maxHeartbeats 4000000 in
theorem sheetsOf_no (a b c d wide high lap : Int) (h : okS a b c d wide high lap = false) (w : World) : Calls Tryd.prog 11 #[boV a b c d, .int .i64 wide, .int .i64 high, .int .i64 lap] w fun e w' => e = .returned (.tuple #[.slice none 0 0, .int .i64 3]) ∧ Gr w w' := by
  have h' := okS_no h
  have HI := hidb (fun w => isBox_any a b c d w)
  clear h
  cases hk : okB a b c d with
  | false =>
    rw [hk] at HI
    clear h'
    go_enter Tryd.func11, Tryd.ntmps11
    go_wp2_with fail
    refine (HI.out _).mono ?_
    rintro e w1 ⟨rfl, hB⟩
    have HC : Gr w w1 := Gr.step (by ((with_reducible repeat' (first | assumption | refine Gr.drew ?_ | refine Gr.alloc ?_ _ | refine Gr.set ?_ (by first | omega | (simp; omega)) _ _ | exact Gr.refl _)); done)) hB
    clear hB
    go_wp2
    go_ret2
    exact ⟨rfl, HC⟩
  | true =>
    rw [hk] at HI h'
    simp only [Bool.not_true, Bool.false_or, Bool.or_eq_true, decide_eq_true_eq] at h'
    have HH := hidb h'
    clear h'
    have key : wide < 1 ∨ ¬ wide < 1 ∧ 33554432 < wide ∨ ¬ wide < 1 ∧ ¬ 33554432 < wide ∧ high < 1 ∨ ¬ wide < 1 ∧ ¬ 33554432 < wide ∧ ¬ high < 1 ∧ 33554432 < high ∨ ¬ wide < 1 ∧ ¬ 33554432 < wide ∧ ¬ high < 1 ∧ ¬ 33554432 < high ∧ lap < 0 ∨ ¬ wide < 1 ∧ ¬ 33554432 < wide ∧ ¬ high < 1 ∧ ¬ 33554432 < high ∧ ¬ lap < 0 ∧ 16777216 < lap := by
      have := HH.out
      omega
    clear HH
    rcases key with h1 | ⟨h1, h2⟩ | ⟨h1, h2, h3⟩ | ⟨h1, h2, h3, h4⟩ | ⟨h1, h2, h3, h4, h5⟩ | ⟨h1, h2, h3, h4, h5, h6⟩
    all_goals
      go_enter Tryd.func11, Tryd.ntmps11
      go_wp2_with fail
      refine (HI.out _).mono ?_
      rintro e w1 ⟨rfl, hB⟩
      have HC : Gr w w1 := Gr.step (by ((with_reducible repeat' (first | assumption | refine Gr.drew ?_ | refine Gr.alloc ?_ _ | refine Gr.set ?_ (by first | omega | (simp; omega)) _ _ | exact Gr.refl _)); done)) hB
      clear hB
      go_wp2
      go_ret2
      exact ⟨rfl, HC⟩
structure AheadR (a b c d wide high : Int) (cols rows : Nat) : Prop where
  e1 : IntKind.i64.wrap (c - a) = c - a
  e2 : ¬ wide = 0
  e3 : IntKind.i64.wrap ((c - a).tdiv wide) = (c - a).tdiv wide
  e4 : IntKind.i64.wrap (1 + (c - a).tdiv wide) = (cols : Int)
  f1 : IntKind.i64.wrap (d - b) = d - b
  f2 : ¬ high = 0
  f3 : IntKind.i64.wrap ((d - b).tdiv high) = (d - b).tdiv high
  f4 : IntKind.i64.wrap (1 + (d - b).tdiv high) = (rows : Int)
  p : IntKind.i64.wrap ((cols : Int) * (rows : Int)) = (cols : Int) * (rows : Int)
theorem Fine.aheadR {a b c d wide high lap : Int} (h : Fine a b c d wide high lap) : AheadR a b c d wide high (cnt a c wide) (cnt b d high) := by
  obtain ⟨e1, e2, e3, e4, f1, f2, f3, f4, p⟩ := h.ahead
  exact ⟨e1, e2, e3, by rw [Int.add_comm]; exact e4, f1, f2, f3, by rw [Int.add_comm]; exact f4, p⟩
set_option maxRecDepth 4000 in
set_option maxHeartbeats 4000000 in
theorem sheetsOf_many (a b c d wide high lap : Int) (h : okS a b c d wide high lap = true) (hm : 4000 < cnt a c wide * cnt b d high) (w : World) : Calls Tryd.prog 11 #[boV a b c d, .int .i64 wide, .int .i64 high, .int .i64 lap] w fun e w' => e = .returned (.tuple #[.slice none 0 0, .int .i64 2]) ∧ Gr w w' := by
  have k1 := (okS_parts h).1
  have fin := okS_fine h
  obtain ⟨e1, e2, e3, e4, f1, f2, f3, f4, ep⟩ := fin.aheadR
  have n1 : ¬ wide < 1 := by have := fin.w1; omega
  have n2 : ¬ 33554432 < wide := by have := fin.w2; omega
  have n3 : ¬ high < 1 := by have := fin.h1; omega
  have n4 : ¬ 33554432 < high := by have := fin.h2; omega
  have n5 : ¬ lap < 0 := by have := fin.l1; omega
  have n6 : ¬ 16777216 < lap := by have := fin.l2; omega
  generalize cnt a c wide = cols at *
  generalize cnt b d high = rows at *
  have hm' : (4000 : Int) < (cols : Int) * (rows : Int) := by
    have e : (cols : Int) * (rows : Int) = ((cols * rows : Nat) : Int) := by simp
    rw [e]; omega
  have HI := hidb (fun w => isBox_any a b c d w)
  rw [k1] at HI
  clear h k1 hm fin
  go_enter Tryd.func11, Tryd.ntmps11
  go_wp2_with fail
  refine (HI.out _).mono ?_
  rintro e w1 ⟨rfl, hB⟩
  have PA : At w1 w.heap.size (boL a b c d) := At.below hB (At.new4 w _ _ _ _ _)
  have HC : Gr w w1 := Gr.step (by ((with_reducible repeat' (first | assumption | refine Gr.drew ?_ | refine Gr.alloc ?_ _ | refine Gr.set ?_ (by first | omega | (simp; omega)) _ _ | exact Gr.refl _)); done)) hB
  clear hB
  obtain ⟨c0, c1, c2, c3⟩ := PA.c4
  go_upto_region 4 with fail
  go_quiet (fail)
  go_wp2
  go_ret2
  exact ⟨rfl, by ((with_reducible repeat' (first | assumption | refine Gr.drew ?_ | refine Gr.drewN ?_ _ | refine Gr.alloc ?_ _ | refine Gr.set ?_ (by first | omega | (simp; omega)) _ _ | exact Gr.refl _)); done)⟩
end Go.Proofs.YthpbkomchdgneaaDoor
