/-
  Ranges: fix.placed, mercatorref3.IsPlace, fix.apart, fix.around.
-/
import Derived.Test.YtehkonddgiakaaaDoorQWhP
namespace Go.Proofs.YtehkonddgiakaaaDoor
open Go.RowKit

/-- A range: its point, its square. -/
structure Rg where
  x : Int
  y : Int
  q : Int
abbrev Rg.v (r : Rg) : Value := .agg #[.int .i64 r.x, .int .i64 r.y, .int .i64 r.q]
def inP (x y : Int) : Prop := (-16777216 ≤ x ∧ x ≤ 16777216) ∧ -16777216 ≤ y ∧ y ≤ 16777216
instance (x y : Int) : Decidable (inP x y) := by unfold inP; exact inferInstance
def okR (r : Rg) : Prop := inP r.x r.y ∧ 0 ≤ r.q ∧ r.q ≤ 4503599627370496
instance (r : Rg) : Decidable (okR r) := by unfold okR; exact inferInstance
abbrev spV (x y : Int) : Value := .agg #[.int .i64 x, .int .i64 y]
set_option maxHeartbeats 1000000 in
theorem placed_any (x y : Int) (w : World) : Calls Tryd.prog 28 #[spV x y] w fun e w' => e = .returned (.bool (decide (inP x y))) ∧ Gr w w' ∧ w.heap.size < w'.heap.size := by
  have hG : Gr w (w.alloc (.cells #[.int .i64 x, .int .i64 y] 45)) := (Gr.refl w).alloc _
  unfold inP
  by_cases c1 : -16777216 ≤ x
  · by_cases c2 : x ≤ 16777216
    · by_cases c3 : -16777216 ≤ y
      · go_enter Tryd.func28, Tryd.ntmps28
        go_wp2
        go_ret
        exact ⟨by simp [c1, c2, c3], hG, by simp⟩
      · go_enter Tryd.func28, Tryd.ntmps28
        go_wp2
        go_ret
        exact ⟨by first | (rw [decide_eq_false (show ¬ ((-16777216 ≤ x ∧ x ≤ 16777216) ∧ -16777216 ≤ y ∧ y ≤ 16777216) by omega)]; rfl) | (simp; omega), hG, by simp⟩
    · go_enter Tryd.func28, Tryd.ntmps28
      go_wp2
      go_ret
      exact ⟨by first | (rw [decide_eq_false (show ¬ ((-16777216 ≤ x ∧ x ≤ 16777216) ∧ -16777216 ≤ y ∧ y ≤ 16777216) by omega)]; rfl) | (simp; omega), hG, by simp⟩
  · go_enter Tryd.func28, Tryd.ntmps28
    go_wp2
    go_ret
    exact ⟨by first | (rw [decide_eq_false (show ¬ ((-16777216 ≤ x ∧ x ≤ 16777216) ∧ -16777216 ≤ y ∧ y ≤ 16777216) by omega)]; rfl) | (simp; omega), hG, by simp⟩
set_option maxHeartbeats 1000000 in
theorem isPlace_any (x y : Int) (w : World) : Calls Tryd.prog 15 #[spV x y] w fun e w' => e = .returned (.bool (decide (inP x y))) ∧ Gr w w' ∧ w.heap.size < w'.heap.size := by
  have hG : Gr w (w.alloc (.cells #[.int .i64 x, .int .i64 y] 45)) := (Gr.refl w).alloc _
  unfold inP
  by_cases c2 : x ≤ 16777216
  · by_cases c1 : -16777216 ≤ x
    · by_cases c4 : y ≤ 16777216
      · go_enter Tryd.func15, Tryd.ntmps15
        go_wp2
        go_ret
        exact ⟨by simp [c1, c2, c4], hG, by simp⟩
      · go_enter Tryd.func15, Tryd.ntmps15
        go_wp2
        go_ret
        exact ⟨by first | (rw [decide_eq_false (show ¬ ((-16777216 ≤ x ∧ x ≤ 16777216) ∧ -16777216 ≤ y ∧ y ≤ 16777216) by omega)]; rfl) | (simp; omega), hG, by simp⟩
    · by_cases c4 : y ≤ 16777216
      all_goals
        go_enter Tryd.func15, Tryd.ntmps15
        go_wp2
        go_ret
        exact ⟨by first | (rw [decide_eq_false (show ¬ ((-16777216 ≤ x ∧ x ≤ 16777216) ∧ -16777216 ≤ y ∧ y ≤ 16777216) by omega)]; rfl) | (simp; omega), hG, by simp⟩
  · by_cases c4 : y ≤ 16777216
    all_goals
      go_enter Tryd.func15, Tryd.ntmps15
      go_wp2
      go_ret
      exact ⟨by first | (rw [decide_eq_false (show ¬ ((-16777216 ≤ x ∧ x ≤ 16777216) ∧ -16777216 ≤ y ∧ y ≤ 16777216) by omega)]; rfl) | (simp; omega), hG, by simp⟩
theorem sq_le {x : Int} {b : Int} (h1 : -b ≤ x) (h2 : x ≤ b) : 0 ≤ x * x ∧ x * x ≤ b * b := by
  refine ⟨?_, ?_⟩
  · rcases Int.le_total 0 x with h | h
    · exact Int.mul_nonneg h h
    · have := Int.mul_nonneg (show 0 ≤ -x by omega) (show 0 ≤ -x by omega)
      rwa [Int.neg_mul_neg] at this
  · rcases Int.le_total 0 x with h | h
    · exact Int.mul_le_mul h2 h2 h (by omega)
    · have := Int.mul_le_mul (show -x ≤ b by omega) (show -x ≤ b by omega) (show 0 ≤ -x by omega) (show 0 ≤ b by omega)
      rwa [Int.neg_mul_neg] at this
theorem wr_in {z : Int} (h1 : -9223372036854775808 ≤ z) (h2 : z ≤ 9223372036854775807) : IntKind.i64.wrap z = z := by rw [IntKind.wrap_i64]; omega
/-- The square of how far. -/
def far (x y a b : Int) : Int := (x - a) * (x - a) + (y - b) * (y - b)
theorem far_bd {x y a b : Int} (h : inP x y) (k : inP a b) : 0 ≤ far x y a b ∧ far x y a b ≤ 2251799813685248 := by
  obtain ⟨⟨h1, h2⟩, h3, h4⟩ := h
  obtain ⟨⟨k1, k2⟩, k3, k4⟩ := k
  have e1 := sq_le (x := x - a) (b := 33554432) (by omega) (by omega)
  have e2 := sq_le (x := y - b) (b := 33554432) (by omega) (by omega)
  unfold far
  omega
set_option maxHeartbeats 1000000 in
theorem apart_any {x y a b : Int} (h : inP x y) (k : inP a b) (w : World) : Calls Tryd.prog 40 #[spV x y, spV a b] w fun e w' => e = .returned (.int .i64 (far x y a b)) ∧ Gr w w' ∧ w.heap.size < w'.heap.size := by
  obtain ⟨f1, f2⟩ := far_bd h k
  obtain ⟨⟨h1, h2⟩, h3, h4⟩ := h
  obtain ⟨⟨k1, k2⟩, k3, k4⟩ := k
  obtain ⟨e1, e2⟩ := sq_le (x := x - a) (b := 33554432) (by omega) (by omega)
  obtain ⟨e3, e4⟩ := sq_le (x := y - b) (b := 33554432) (by omega) (by omega)
  have w1 : IntKind.i64.wrap (x - a) = x - a := wr_in (by omega) (by omega)
  have w2 : IntKind.i64.wrap (y - b) = y - b := wr_in (by omega) (by omega)
  have w3 : IntKind.i64.wrap ((x - a) * (x - a)) = (x - a) * (x - a) := wr_in (by omega) (by omega)
  have w4 : IntKind.i64.wrap ((y - b) * (y - b)) = (y - b) * (y - b) := wr_in (by omega) (by omega)
  unfold far at *
  have w5 : IntKind.i64.wrap ((x - a) * (x - a) + (y - b) * (y - b)) = (x - a) * (x - a) + (y - b) * (y - b) := wr_in (by omega) (by omega)
  obtain ⟨u, hu⟩ : ∃ u, u = x - a := ⟨_, rfl⟩
  obtain ⟨t, ht⟩ : ∃ t, t = y - b := ⟨_, rfl⟩
  rw [← hu] at w1 w3 w5
  rw [← ht] at w2 w4 w5
  rw [← hu, ← ht]
  obtain ⟨uu, huu⟩ : ∃ uu, uu = u * u := ⟨_, rfl⟩
  obtain ⟨tt, htt⟩ : ∃ tt, tt = t * t := ⟨_, rfl⟩
  rw [← huu] at w3 w5
  rw [← htt] at w4 w5
  rw [← huu, ← htt]
  have w3' : IntKind.i64.wrap (u * u) = uu := by rw [← huu]; exact w3
  have w4' : IntKind.i64.wrap (t * t) = tt := by rw [← htt]; exact w4
  have w1' : IntKind.i64.wrap (x - a) = u := by rw [hu] at w1 ⊢; exact w1
  have w2' : IntKind.i64.wrap (y - b) = t := by rw [ht] at w2 ⊢; exact w2
  clear hu ht huu htt e1 e2 e3 e4 f1 f2 h1 h2 h3 h4 k1 k2 k3 k4 w1 w2 w3 w4
  go_enter Tryd.func40, Tryd.ntmps40
  go_upto_region 1 with fail
  go_quiet (fail)
  go_wp2
  go_ret
  exact ⟨rfl, (((Gr.refl w).alloc _).alloc _).drewN _, by simp; omega⟩
theorem around_any (a b : Int) (w : World) : Calls Tryd.prog 39 #[.int .i64 a, .int .i64 b] w fun e w' => e = .returned (.int .i64 (if a = b then (if a = 0 then 1 else -1) else 0)) ∧ w' = w := by
  by_cases c : a = b
  · subst c
    by_cases d : a = 0
    · subst d
      go_enter Tryd.func39, Tryd.ntmps39
      go_wp2
      go_ret
      exact ⟨rfl, rfl⟩
    · rw [if_pos rfl, if_neg d]
      go_enter Tryd.func39, Tryd.ntmps39
      go_wp2
      go_ret
      exact ⟨rfl, rfl⟩
  · rw [if_neg c]
    go_enter Tryd.func39, Tryd.ntmps39
    go_wp2
    go_ret
    exact ⟨rfl, rfl⟩
end Go.Proofs.YtehkonddgiakaaaDoor
