/-
  grain's ratio.over.
-/
import Derived.Test.YtgjjgicojedefaaDoorFrY
namespace Go.Proofs.YtgjjgicojedefaaDoor
open Go.RowKit BG
attribute [local go_sem ↓] Go.wp_at_zero Go.wp_at_succ

theorem over_zero (g : Nat → Addr) (an ad bd : Int) (w : World) (hl : Laid w g) : Calls Tryd.prog 54 #[.agg #[.int .i64 an, .int .i64 ad], .agg #[.int .i64 0, .int .i64 bd]] w fun e w' => e = .returned (.tuple #[fr0, errV g 2]) ∧ Below w.heap.size w w' := by
  have cE : (((w.alloc (.cells #[.int .i64 an, .int .i64 ad] 88)).alloc (.cells #[.int .i64 0, .int .i64 bd] 88)).alloc (.cells #[.int .i64 0, .int .i64 0] 29)).cell? ⟨2, 0, none⟩ = some (errV g 2) := (((hl.alloc _).alloc _).alloc _).cell 2 (by decide)
  have HC : Gr w (((w.alloc (.cells #[.int .i64 an, .int .i64 ad] 88)).alloc (.cells #[.int .i64 0, .int .i64 bd] 88)).alloc (.cells #[.int .i64 0, .int .i64 0] 29)) := (((Gr.refl w).alloc _).alloc _).alloc _
  have RA := At.ny2 (W := w) (.cells #[.int .i64 an, .int .i64 ad] 88) (.cells #[.int .i64 0, .int .i64 bd] 88) (.int .i64 0) (.int .i64 0) 29
  have hlt : 2 < w.heap.size := lt_of_cell (hl.cell 2 (by decide))
  have hne : ¬ w.heap.size + 1 + 1 = 2 := by omega
  have hge : w.heap.size ≤ w.heap.size + 1 + 1 := by omega
  clear hl hlt
  go_enter Tryd.func54, Tryd.ntmps54
  go_wp2_with fail
  generalize ((w.alloc (.cells #[.int .i64 an, .int .i64 ad] 88)).alloc (.cells #[.int .i64 0, .int .i64 bd] 88)).alloc (.cells #[.int .i64 0, .int .i64 0] 29) = w3 at *
  obtain ⟨r0, r1⟩ := RA.c2
  obtain ⟨f0, f1⟩ := RA.f2
  go_region_held (fun w' => w'.cell? ⟨2, 0, none⟩ = some (errV g 2))
    (first | (with_reducible assumption) | exact cE | exact keep2 cE hne)
    (fail)
  go_wp2
  exact bodyPost_ret (v := .tuple #[fr0, errV g 2]) (by simp [results, Tryd.results54, go_sem, r0, r1]) rfl ⟨rfl, by first | exact ((HC.set hge _ _).set hge _ _).drew | exact ((HC.drew.set hge _ _).set hge _ _) | exact (HC.set hge _ _).set hge _ _⟩
theorem rgt_swap {n d : Int} (h : Rgt n d) (hn : 0 < n) : Rgt d n := by
  obtain ⟨⟨h1, h2, h3, h4⟩, hg⟩ := h
  exact ⟨⟨by omega, by omega, by omega, by omega⟩, by rw [Nat.gcd_comm]; exact hg⟩
theorem rgt_turn {n d : Int} (h : Rgt n d) (hn : n < 0) : Rgt (-d) (-n) := by
  obtain ⟨⟨h1, h2, h3, h4⟩, hg⟩ := h
  exact ⟨⟨by omega, by omega, by omega, by omega⟩, by rw [Int.natAbs_neg, Int.natAbs_neg, Nat.gcd_comm]; exact hg⟩
theorem dec_neg {x : Int} (h : ¬ x = 0) : decide (-x < 0) = !decide (x < 0) := by
  rcases Int.lt_or_gt_of_ne h with a | a
  · rw [decide_eq_true a, decide_eq_false (by omega)]; rfl
  · rw [decide_eq_true (by omega), decide_eq_false (by omega)]; rfl
theorem q_turn (x y : Int) (g : Nat → Addr) (h : ¬ y = 0) : qy (-x) (-y) = qy x y ∧ qe g (-x) (-y) = qe g x y ∧ qx (-x) (-y) = qx x y := by
  unfold qy qe qx
  rw [Int.natAbs_neg, Int.natAbs_neg]
  refine ⟨rfl, rfl, ?_⟩
  by_cases z : x = 0
  · subst z
    rw [show rn (0 : Int).natAbs y.natAbs = 0 by simp [rn]]
    exact rx_zero _ _ _
  · congr 1
    rw [dec_neg z, dec_neg h]
    cases decide (x < 0) <;> cases decide (y < 0) <;> rfl
set_option maxHeartbeats 1000000 in
theorem over_gen (_g : Nat → Addr) (an ad bn bd cn cd : Int) (X Z : Int) (E : Value) (hb : Rgt bn bd) (hc : bn < 0 ∧ cn = -bd ∧ cd = -bn ∨ 0 < bn ∧ cn = bd ∧ cd = bn) (w : World)
    (HT : ∀ w1 : World, Gr w w1 → Calls Tryd.prog 53 #[.agg #[.int .i64 an, .int .i64 ad], .agg #[.int .i64 cn, .int .i64 cd]] w1 fun e w' => e = .returned (.tuple #[.agg #[.int .i64 X, .int .i64 Z], E]) ∧ Below w1.heap.size w1 w') : Calls Tryd.prog 54 #[.agg #[.int .i64 an, .int .i64 ad], .agg #[.int .i64 bn, .int .i64 bd]] w fun e w' => e = .returned (.tuple #[.agg #[.int .i64 X, .int .i64 Z], E]) ∧ Below w.heap.size w w' := by
  obtain ⟨⟨b1, b2, b3, b4⟩, gb⟩ := hb
  have HC : Gr w (((w.alloc (.cells #[.int .i64 an, .int .i64 ad] 88)).alloc (.cells #[.int .i64 bn, .int .i64 bd] 88)).alloc (.cells #[.int .i64 0, .int .i64 0] 29)) := (((Gr.refl w).alloc _).alloc _).alloc _
  have RA := At.ny2 (W := w) (.cells #[.int .i64 an, .int .i64 ad] 88) (.cells #[.int .i64 bn, .int .i64 bd] 88) (.int .i64 0) (.int .i64 0) 29
  have hge : w.heap.size ≤ w.heap.size + 1 + 1 := by omega
  have H := hidb HT
  have z : ¬ bn = 0 := by omega
  clear HT gb
  rcases hc with ⟨c, h1, h2⟩ | ⟨c, h1, h2⟩
  · rw [h1, h2] at H
    clear h1 h2
    go_enter Tryd.func54, Tryd.ntmps54
    go_wp2_with fail
    refine (H.out _ HC).mono ?_
    rintro e w1 ⟨rfl, hB⟩
    replace HC := Gr.step HC hB
    replace RA := At.below hB RA
    clear hB H
    obtain ⟨r0, r1⟩ := RA.c2
    obtain ⟨f0, f1⟩ := RA.f2
    go_wp2
    exact bodyPost_ret (v := .tuple #[.agg #[.int .i64 X, .int .i64 Z], E]) (by simp [results, Tryd.results54, go_sem, r0, r1]) rfl ⟨rfl, (HC.set hge _ _).set hge _ _⟩
  · rw [h1, h2] at H
    clear h1 h2
    have c' : ¬ bn < 0 := by omega
    go_enter Tryd.func54, Tryd.ntmps54
    go_wp2_with fail
    refine (H.out _ HC).mono ?_
    rintro e w1 ⟨rfl, hB⟩
    replace HC := Gr.step HC hB
    replace RA := At.below hB RA
    clear hB H
    obtain ⟨r0, r1⟩ := RA.c2
    obtain ⟨f0, f1⟩ := RA.f2
    go_wp2
    exact bodyPost_ret (v := .tuple #[.agg #[.int .i64 X, .int .i64 Z], E]) (by simp [results, Tryd.results54, go_sem, r0, r1]) rfl ⟨rfl, (HC.set hge _ _).set hge _ _⟩
theorem over_any' (g : Nat → Addr) (an ad bn bd : Int) (ha : Rgt an ad) (hb : Rgt bn bd) (h0 : ¬ bn = 0) (w : World) (hl : Laid w g) : Calls Tryd.prog 54 #[.agg #[.int .i64 an, .int .i64 ad], .agg #[.int .i64 bn, .int .i64 bd]] w fun e w' => e = .returned (.tuple #[.agg #[.int .i64 (qx (an * bd) (ad * bn)), .int .i64 (qy (an * bd) (ad * bn))], qe g (an * bd) (ad * bn)]) ∧ Below w.heap.size w w' := by
  rcases Int.lt_or_gt_of_ne h0 with h | h
  · have z : ¬ ad * bn = 0 := Int.mul_ne_zero (by have := ha.1; omega) h0
    obtain ⟨e1, e2, e3⟩ := q_turn (an * bd) (ad * bn) g z
    rw [← e1, ← e2, ← e3, ← Int.mul_neg, ← Int.mul_neg]
    exact over_gen g an ad bn bd (-bd) (-bn) _ _ _ hb (Or.inl ⟨h, rfl, rfl⟩) w (fun w1 hw => times_any g an ad (-bd) (-bn) ha (rgt_turn hb h) w1 (hl.below hw))
  · exact over_gen g an ad bn bd bd bn _ _ _ hb (Or.inr ⟨h, rfl, rfl⟩) w (fun w1 hw => times_any g an ad bd bn ha (rgt_swap hb h) w1 (hl.below hw))
end Go.Proofs.YtgjjgicojedefaaDoor
