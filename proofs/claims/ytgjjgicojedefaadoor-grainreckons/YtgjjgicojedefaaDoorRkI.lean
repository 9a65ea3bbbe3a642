/-
  mercatorlaw1.GrainReckons: for every two fractions.
-/
import Derived.Test.YtgjjgicojedefaaDoorRkH
namespace Go.Proofs.YtgjjgicojedefaaDoor
open Go.RowKit BG

theorem coded_q (g : Nat → Addr) (x y : Int) (w : World) (hl : Laid w g) : Calls Tryd.prog 8 #[qe g x y, .int .i64 (qc x y)] w fun e w' => e = .returned (.bool true) ∧ Below w.heap.size w w' := by
  unfold qe qc qf re
  by_cases h : fits (rn x.natAbs y.natAbs) (rd x.natAbs y.natAbs)
  · rw [if_pos h, if_pos (decide_eq_true h)]
    refine (coded_nil 0 w).mono ?_
    rintro e w' ⟨rfl, rfl⟩
    exact ⟨rfl, Below.refl _ _⟩
  · rw [if_neg h, if_neg (by rw [decide_eq_false h]; exact Bool.false_ne_true)]
    exact coded_2 g w hl
theorem over_zero0 (g : Nat → Addr) (an ad bn bd : Int) (h : bn = 0) (w : World) (hl : Laid w g) : Calls Tryd.prog 54 #[.agg #[.int .i64 an, .int .i64 ad], .agg #[.int .i64 bn, .int .i64 bd]] w fun e w' => e = .returned (.tuple #[fr0, errV g 2]) ∧ Below w.heap.size w w' := by
  subst h; exact over_zero g an ad bd w hl
theorem rk_ok (g : Nat → Addr) (an ad bn bd : Int) (ha : Rgt an ad) (hb : Rgt bn bd) (h0 : ¬ bn = 0) (w : World) (hl : Laid w g) : Calls Tryd.prog 5 #[.agg #[.int .i64 an, .int .i64 ad], .agg #[.int .i64 bn, .int .i64 bd]] w fun e w' => e = .returned (.bool true) ∧ Below w.heap.size w w' :=
  rk_gen an ad bn bd _ _ _ _ _ _ _ _ _ _ _ _ _ _ _ _ w
    (fun w1 h1 => top_plus an ad bn bd _ _ _ w1 (fun w2 h2 => ex_plus an ad bn bd _ _ _ ha hb w2 (fun w3 h3 => rplus_any g an ad bn bd ha hb w3 (hl.below (Gr.step (Gr.step h1 h2.out) h3.out).out)))) (fun w1 => of_add an ad bn bd ha hb w1) (fun w1 h1 => coded_q g _ _ w1 (hl.below h1.out))
    (fun w1 h1 => top_less an ad bn bd _ _ _ w1 (fun w2 h2 => ex_less an ad bn bd _ _ _ ha hb w2 (fun w3 h3 => less_any g an ad bn bd ha hb w3 (hl.below (Gr.step (Gr.step h1 h2.out) h3.out).out)))) (fun w1 => of_sub an ad bn bd ha hb w1) (fun w1 h1 => coded_q g _ _ w1 (hl.below h1.out))
    (fun w1 h1 => top_times an ad bn bd _ _ _ w1 (fun w2 h2 => ex_times an ad bn bd _ _ _ ha hb w2 (fun w3 h3 => times_any g an ad bn bd ha hb w3 (hl.below (Gr.step (Gr.step h1 h2.out) h3.out).out)))) (fun w1 => of_mul an ad bn bd ha hb w1) (fun w1 h1 => coded_q g _ _ w1 (hl.below h1.out))
    (fun w1 h1 => top_over an ad bn bd _ _ _ w1 (fun w2 h2 => ex_over an ad bn bd _ _ _ ha hb w2 (fun w3 h3 => over_any' g an ad bn bd ha hb h0 w3 (hl.below (Gr.step (Gr.step h1 h2.out) h3.out).out)))) (fun w1 => of_div an ad bn bd ha hb h0 w1) (fun w1 h1 => coded_q g _ _ w1 (hl.below h1.out))
theorem rk_zero (g : Nat → Addr) (an ad bn bd : Int) (ha : Rgt an ad) (hb : Rgt bn bd) (h0 : bn = 0) (w : World) (hl : Laid w g) : Calls Tryd.prog 5 #[.agg #[.int .i64 an, .int .i64 ad], .agg #[.int .i64 bn, .int .i64 bd]] w fun e w' => e = .returned (.bool true) ∧ Below w.heap.size w w' :=
  rk_gen an ad bn bd _ _ _ _ _ _ _ _ _ _ _ _ _ _ _ _ w
    (fun w1 h1 => top_plus an ad bn bd _ _ _ w1 (fun w2 h2 => ex_plus an ad bn bd _ _ _ ha hb w2 (fun w3 h3 => rplus_any g an ad bn bd ha hb w3 (hl.below (Gr.step (Gr.step h1 h2.out) h3.out).out)))) (fun w1 => of_add an ad bn bd ha hb w1) (fun w1 h1 => coded_q g _ _ w1 (hl.below h1.out))
    (fun w1 h1 => top_less an ad bn bd _ _ _ w1 (fun w2 h2 => ex_less an ad bn bd _ _ _ ha hb w2 (fun w3 h3 => less_any g an ad bn bd ha hb w3 (hl.below (Gr.step (Gr.step h1 h2.out) h3.out).out)))) (fun w1 => of_sub an ad bn bd ha hb w1) (fun w1 h1 => coded_q g _ _ w1 (hl.below h1.out))
    (fun w1 h1 => top_times an ad bn bd _ _ _ w1 (fun w2 h2 => ex_times an ad bn bd _ _ _ ha hb w2 (fun w3 h3 => times_any g an ad bn bd ha hb w3 (hl.below (Gr.step (Gr.step h1 h2.out) h3.out).out)))) (fun w1 => of_mul an ad bn bd ha hb w1) (fun w1 h1 => coded_q g _ _ w1 (hl.below h1.out))
    (fun w1 h1 => top_over an ad bn bd _ _ _ w1 (fun w2 h2 => ex_over an ad bn bd _ _ _ ha hb w2 (fun w3 h3 => over_zero0 g an ad bn bd h0 w3 (hl.below (Gr.step (Gr.step h1 h2.out) h3.out).out)))) (fun w1 => of_zero an ad bn bd ha hb h0 w1) (fun w1 h1 => coded_3 g w1 (hl.below h1.out))
theorem rk_no1 (g : Nat → Addr) (an ad bn bd : Int) (ha : I64 an) (hq : ¬ Rgt an ad) (w : World) (hl : Laid w g) : Calls Tryd.prog 5 #[.agg #[.int .i64 an, .int .i64 ad], .agg #[.int .i64 bn, .int .i64 bd]] w fun e w' => e = .returned (.bool true) ∧ Below w.heap.size w w' :=
  rk_gen an ad bn bd _ _ _ _ _ _ _ _ _ _ _ _ _ _ _ _ w
    (fun w1 h1 => top_plus an ad bn bd _ _ _ w1 (fun w2 h2 => ex_no1 g an ad bn bd _ ha.1 ha.2 hq w2 (hl.below (Gr.step h1 h2.out).out))) (fun w1 => of_no an ad bn bd 43 false (decide (Rgt bn bd)) (decide_eq_false hq) rfl rfl w1) (fun w1 h1 => coded_3 g w1 (hl.below h1.out))
    (fun w1 h1 => top_less an ad bn bd _ _ _ w1 (fun w2 h2 => ex_no1 g an ad bn bd _ ha.1 ha.2 hq w2 (hl.below (Gr.step h1 h2.out).out))) (fun w1 => of_no an ad bn bd 45 false (decide (Rgt bn bd)) (decide_eq_false hq) rfl rfl w1) (fun w1 h1 => coded_3 g w1 (hl.below h1.out))
    (fun w1 h1 => top_times an ad bn bd _ _ _ w1 (fun w2 h2 => ex_no1 g an ad bn bd _ ha.1 ha.2 hq w2 (hl.below (Gr.step h1 h2.out).out))) (fun w1 => of_no an ad bn bd 42 false (decide (Rgt bn bd)) (decide_eq_false hq) rfl rfl w1) (fun w1 h1 => coded_3 g w1 (hl.below h1.out))
    (fun w1 h1 => top_over an ad bn bd _ _ _ w1 (fun w2 h2 => ex_no1 g an ad bn bd _ ha.1 ha.2 hq w2 (hl.below (Gr.step h1 h2.out).out))) (fun w1 => of_no an ad bn bd 47 false (decide (Rgt bn bd)) (decide_eq_false hq) rfl rfl w1) (fun w1 h1 => coded_3 g w1 (hl.below h1.out))
theorem rk_no2 (g : Nat → Addr) (an ad bn bd : Int) (hb : I64 bn) (hq : Rgt an ad) (hr : ¬ Rgt bn bd) (w : World) (hl : Laid w g) : Calls Tryd.prog 5 #[.agg #[.int .i64 an, .int .i64 ad], .agg #[.int .i64 bn, .int .i64 bd]] w fun e w' => e = .returned (.bool true) ∧ Below w.heap.size w w' :=
  rk_gen an ad bn bd _ _ _ _ _ _ _ _ _ _ _ _ _ _ _ _ w
    (fun w1 h1 => top_plus an ad bn bd _ _ _ w1 (fun w2 h2 => ex_no2 g an ad bn bd _ hb.1 hb.2 hq hr w2 (hl.below (Gr.step h1 h2.out).out))) (fun w1 => of_no an ad bn bd 43 true false (decide_eq_true hq) (decide_eq_false hr) rfl w1) (fun w1 h1 => coded_3 g w1 (hl.below h1.out))
    (fun w1 h1 => top_less an ad bn bd _ _ _ w1 (fun w2 h2 => ex_no2 g an ad bn bd _ hb.1 hb.2 hq hr w2 (hl.below (Gr.step h1 h2.out).out))) (fun w1 => of_no an ad bn bd 45 true false (decide_eq_true hq) (decide_eq_false hr) rfl w1) (fun w1 h1 => coded_3 g w1 (hl.below h1.out))
    (fun w1 h1 => top_times an ad bn bd _ _ _ w1 (fun w2 h2 => ex_no2 g an ad bn bd _ hb.1 hb.2 hq hr w2 (hl.below (Gr.step h1 h2.out).out))) (fun w1 => of_no an ad bn bd 42 true false (decide_eq_true hq) (decide_eq_false hr) rfl w1) (fun w1 h1 => coded_3 g w1 (hl.below h1.out))
    (fun w1 h1 => top_over an ad bn bd _ _ _ w1 (fun w2 h2 => ex_no2 g an ad bn bd _ hb.1 hb.2 hq hr w2 (hl.below (Gr.step h1 h2.out).out))) (fun w1 => of_no an ad bn bd 47 true false (decide_eq_true hq) (decide_eq_false hr) rfl w1) (fun w1 h1 => coded_3 g w1 (hl.below h1.out))
theorem rk_walk (g : Nat → Addr) (an ad bn bd : Int) (ha : I64 an) (hb : I64 bn) (w : World) (hl : Laid w g) : Calls Tryd.prog 5 #[.agg #[.int .i64 an, .int .i64 ad], .agg #[.int .i64 bn, .int .i64 bd]] w fun e w' => e = .returned (.bool true) ∧ Below w.heap.size w w' := by
  by_cases hq : Rgt an ad
  · by_cases hr : Rgt bn bd
    · by_cases h0 : bn = 0
      · exact rk_zero g an ad bn bd hq hr h0 w hl
      · exact rk_ok g an ad bn bd hq hr h0 w hl
    · exact rk_no2 g an ad bn bd hb hq hr w hl
  · exact rk_no1 g an ad bn bd ha hq w hl
end Go.Proofs.YtgjjgicojedefaaDoor
