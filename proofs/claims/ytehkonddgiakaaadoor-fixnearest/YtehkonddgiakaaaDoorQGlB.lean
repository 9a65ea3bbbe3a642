/-
  grid.right; mercatorref2.IsBox.
-/
import Derived.Test.YtehkonddgiakaaaDoorQGlA
namespace Go.Proofs.YtehkonddgiakaaaDoor
open Go.RowKit

/-- A box that is one. -/
def okB (a b c d : Int) : Bool := inI (-16777216) 16777216 a && inI (-16777216) 16777216 b && inI (-16777216) 16777216 c && inI (-16777216) 16777216 d && decide (a ≤ c) && decide (b ≤ d)
theorem okB_bd {a b c d : Int} (h : okB a b c d = true) : (-16777216 ≤ a ∧ a ≤ 16777216) ∧ (-16777216 ≤ b ∧ b ≤ 16777216) ∧ (-16777216 ≤ c ∧ c ≤ 16777216) ∧ (-16777216 ≤ d ∧ d ≤ 16777216) ∧ a ≤ c ∧ b ≤ d := by
  unfold okB inI at h
  simp only [Bool.and_eq_true, decide_eq_true_eq] at h
  omega
theorem inI_no {lo hi n : Int} (h : inI lo hi n = false) : (decide (hi < n) || decide (n < lo)) = true := by
  unfold inI at h
  by_cases h1 : lo ≤ n
  · have : ¬ n ≤ hi := by intro h2; simp [h1, h2] at h
    have : hi < n := by omega
    simp [this]
  · have : n < lo := by omega
    simp [this]
theorem inI_yes {lo hi n : Int} (h : inI lo hi n = true) : ¬ hi < n ∧ ¬ n < lo := by
  unfold inI at h
  simp only [Bool.and_eq_true, decide_eq_true_eq] at h
  omega
set_option maxHeartbeats 4000000 in
theorem isBox_any (a b c d : Int) (w : World) : Calls Tryd.prog 17 #[boV a b c d] w fun e w' => e = .returned (.bool (okB a b c d)) ∧ Gr w w' := by
  unfold okB
  go_enter Tryd.func17, Tryd.ntmps17
  go_wp2
  have PA := (At.new4 w (.int .i64 a) (.int .i64 b) (.int .i64 c) (.int .i64 d) 47).alloc (.cells #[.int .i64 a, .int .i64 b, .int .i64 c, .int .i64 d] 3)
  have LA : At ((w.alloc (.cells #[.int .i64 a, .int .i64 b, .int .i64 c, .int .i64 d] 47)).alloc (.cells #[.int .i64 a, .int .i64 b, .int .i64 c, .int .i64 d] 3)) (w.heap.size + 1) (boL a b c d) := by
    have := At.new4 (w.alloc (.cells #[.int .i64 a, .int .i64 b, .int .i64 c, .int .i64 d] 47)) (.int .i64 a) (.int .i64 b) (.int .i64 c) (.int .i64 d) 3
    simpa using this
  have HC : Gr w ((w.alloc (.cells #[.int .i64 a, .int .i64 b, .int .i64 c, .int .i64 d] 47)).alloc (.cells #[.int .i64 a, .int .i64 b, .int .i64 c, .int .i64 d] 3)) := by ((with_reducible repeat' (first | assumption | refine Gr.drew ?_ | refine Gr.alloc ?_ _ | refine Gr.set ?_ (by first | omega | (simp; omega)) _ _ | exact Gr.refl _)); done)
  generalize (w.alloc (.cells #[.int .i64 a, .int .i64 b, .int .i64 c, .int .i64 d] 47)).alloc (.cells #[.int .i64 a, .int .i64 b, .int .i64 c, .int .i64 d] 3) = w1 at PA LA HC ⊢
  obtain ⟨c0, c1, c2, c3⟩ := PA.c4
  obtain ⟨l0, l1, l2, l3⟩ := LA.c4
  refine wp_loop_rounds 5 ?_
  rw [rounds_succ]
  cases h0 : inI (-16777216) 16777216 a with
  | false =>
    have h0' := inI_no h0
    have H0 := hidb h0
    clear h0
    go_wp2
    all_goals
      go_ret
      exact ⟨by simp [H0.out], HC⟩
  | true =>
    obtain ⟨t0, t0'⟩ := inI_yes h0
    have H0 := hidb h0
    clear h0
    go_wp2
    rw [rounds_succ]
    cases h1 : inI (-16777216) 16777216 b with
    | false =>
      have h1' := inI_no h1
      have H1 := hidb h1
      clear h1
      go_wp2
      all_goals
        go_ret
        exact ⟨by simp [H0.out, H1.out], HC⟩
    | true =>
      obtain ⟨t1, t1'⟩ := inI_yes h1
      have H1 := hidb h1
      clear h1
      go_wp2
      rw [rounds_succ]
      cases h2 : inI (-16777216) 16777216 c with
      | false =>
        have h2' := inI_no h2
        have H2 := hidb h2
        clear h2
        go_wp2
        all_goals
          go_ret
          exact ⟨by simp [H0.out, H1.out, H2.out], HC⟩
      | true =>
        obtain ⟨t2, t2'⟩ := inI_yes h2
        have H2 := hidb h2
        clear h2
        go_wp2
        rw [rounds_succ]
        cases h3 : inI (-16777216) 16777216 d with
        | false =>
          have h3' := inI_no h3
          have H3 := hidb h3
          clear h3
          go_wp2
          all_goals
            go_ret
            exact ⟨by simp [H0.out, H1.out, H2.out, H3.out], HC⟩
        | true =>
          obtain ⟨t3, t3'⟩ := inI_yes h3
          have H3 := hidb h3
          clear h3
          go_wp2
          rw [rounds_succ]
          by_cases h4 : a ≤ c
          · by_cases h5 : b ≤ d
            all_goals
              go_wp2
              go_ret
              exact ⟨by simp [H0.out, H1.out, H2.out, H3.out, h4, h5], HC⟩
          · go_wp2
            go_ret
            exact ⟨by simp [H0.out, H1.out, H2.out, H3.out]; omega, HC⟩
end Go.Proofs.YtehkonddgiakaaaDoor
