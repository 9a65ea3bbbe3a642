/-
  shape.sooner; mercatorref5's clockwise and sooner.; Directions around a node, with the clock: both sides' sooner. No Go text is named here.; shape.net.out: the first piece of a way.
-/
import Derived.Test.YtnadgoomkaldkaaDoorQTk
import Derived.Test.YtnadgoomkaldkaaDoorQSfA
namespace Go.Proofs.YtnadgoomkaldkaaDoor
open Go.RowKit
attribute [local go_sem ↓] Go.wp_at_zero Go.wp_at_succ

/-- Does an arrow that turns with the clock, from a piece on, point to s ahead of r? -/
def snP (p : Pc) (s r : Sp) : Prop := if (0 < tn p.1 p.2 s ↔ 0 < tn p.1 p.2 r) then tn p.1 s r < 0 else 0 < tn p.1 p.2 r
instance (p : Pc) (s r : Sp) : Decidable (snP p s r) := by unfold snP; exact inferInstance
structure S3 (w W : World) (p : Pc) (s r : Sp) : Prop where
  a : At W w.heap.size [.int .i64 p.1.1, .int .i64 p.1.2, .int .i64 p.2.1, .int .i64 p.2.2]
  b : At W (w.heap.size + 1) [.int .i64 s.1, .int .i64 s.2]
  c : At W (w.heap.size + 1 + 1) [.int .i64 r.1, .int .i64 r.2]
  g : Gr w W
theorem S3.new (w : World) (p : Pc) (s r : Sp) : S3 w (((w.alloc (.cells #[.int .i64 p.1.1, .int .i64 p.1.2, .int .i64 p.2.1, .int .i64 p.2.2] 84)).alloc (.cells #[.int .i64 s.1, .int .i64 s.2] 52)).alloc (.cells #[.int .i64 r.1, .int .i64 r.2] 52)) p s r where
  a := ((At.new4 w _ _ _ _ _).alloc _).alloc _
  b := (At.nx2 _ _ _ _).alloc _
  c := At.at2 (by simp) _ _ _
  g := (((Gr.refl w).alloc _).alloc _).alloc _
theorem S3.below {w W w' : World} {p : Pc} {s r : Sp} (h : S3 w W p s r) (hB : Below W.heap.size W w') : S3 w w' p s r := ⟨At.below hB h.a, At.below hB h.b, At.below hB h.c, Gr.step h.g hB⟩
theorem S3.drew {w W : World} {p : Pc} {s r : Sp} (h : S3 w W p s r) : S3 w W.drew p s r := ⟨h.a.drew, h.b.drew, h.c.drew, h.g.drew⟩
theorem S3.all {w W : World} {p : Pc} {s r : Sp} (h : S3 w W p s r) : (W.cell? ⟨w.heap.size, 0, none⟩ = some (.int .i64 p.1.1) ∧ W.cell? ⟨w.heap.size, 1, none⟩ = some (.int .i64 p.1.2) ∧ W.cell? ⟨w.heap.size, 2, none⟩ = some (.int .i64 p.2.1) ∧ W.cell? ⟨w.heap.size, 3, none⟩ = some (.int .i64 p.2.2)) ∧ (W.cell? ⟨w.heap.size + 1, 0, none⟩ = some (.int .i64 s.1) ∧ W.cell? ⟨w.heap.size + 1, 1, none⟩ = some (.int .i64 s.2)) ∧ W.cell? ⟨w.heap.size + 1 + 1, 0, none⟩ = some (.int .i64 r.1) ∧ W.cell? ⟨w.heap.size + 1 + 1, 1, none⟩ = some (.int .i64 r.2) := ⟨h.a.c4, h.b.c2, h.c.c2⟩
set_option maxRecDepth 4000 in
set_option maxHeartbeats 4000000 in
theorem ssooner_any {p : Pc} {s r : Sp} (hp : okP p) (hs : okS s) (hr : okS r) (w : World) : Calls Tryd.prog 67 #[pv p, sv s, sv r] w fun e w' => e = .returned (.bool (decide (snP p s r))) ∧ Gr w w' := by
  have H1 := hidb (fun w => turn_any hp.1 hp.2 hs w)
  have H2 := hidb (fun w => turn_any hp.1 hp.2 hr w)
  have H3 := hidb (fun w => turn_any hp.1 hs hr w)
  generalize hq : decide (snP p s r) = res
  have HR : Hid (res = decide (if (0 < tn p.1 p.2 s ↔ 0 < tn p.1 p.2 r) then tn p.1 s r < 0 else 0 < tn p.1 p.2 r)) := by rw [← hq]; exact decide_eq_decide.2 Iff.rfl
  clear hq hp hs hr
  generalize tn p.1 p.2 s = a at *
  generalize tn p.1 p.2 r = b at *
  generalize tn p.1 s r = c at *
  have E := S3.new w p s r
  go_enter Tryd.func67, Tryd.ntmps67
  go_upto_region 1 with fail
  generalize ((w.alloc (.cells #[.int .i64 p.1.1, .int .i64 p.1.2, .int .i64 p.2.1, .int .i64 p.2.2] 84)).alloc (.cells #[.int .i64 s.1, .int .i64 s.2] 52)).alloc (.cells #[.int .i64 r.1, .int .i64 r.2] 52) = W1 at *
  refine wp_region_held_drew (S := (fun w' => (w'.cell? ⟨w.heap.size, 0, none⟩ = some (.int .i64 p.1.1) ∧ w'.cell? ⟨w.heap.size, 1, none⟩ = some (.int .i64 p.1.2) ∧ w'.cell? ⟨w.heap.size, 2, none⟩ = some (.int .i64 p.2.1) ∧ w'.cell? ⟨w.heap.size, 3, none⟩ = some (.int .i64 p.2.2)) ∧ (w'.cell? ⟨w.heap.size + 1, 0, none⟩ = some (.int .i64 s.1) ∧ w'.cell? ⟨w.heap.size + 1, 1, none⟩ = some (.int .i64 s.2)) ∧ w'.cell? ⟨w.heap.size + 1 + 1, 0, none⟩ = some (.int .i64 r.1) ∧ w'.cell? ⟨w.heap.size + 1 + 1, 1, none⟩ = some (.int .i64 r.2))) (by kernel_rfl) ?_ (fun hHeld => ?_)
  · (try dsimp only); (with_reducible first | exact E.all | exact E.drew.all)
  refine wt (i := 0) (v := ?vt1q0x2) rfl ?ht1q0x2 ?rt1q0x2
  case ht1q0x2 => (intro w hSw; (try dsimp only at hSw); go_simp; try with_reducible rfl)
  (try simp only [Act.put, lq1, lq2, lq4, lq5, lq6])
  refine wt (i := 1) (v := ?vt1q1x5) rfl ?ht1q1x5 ?rt1q1x5
  case ht1q1x5 => (intro w hSw; (try dsimp only at hSw); go_simp; try with_reducible rfl)
  (try simp only [Act.put, lq1, lq2, lq3, lq4, lq5, lq6])
  refine wt (i := 2) (v := ?vt1q2x8) rfl ?ht1q2x8 ?rt1q2x8
  case ht1q2x8 => (intro w hSw; (try dsimp only at hSw); go_simp; try with_reducible rfl)
  (try simp only [Act.put, lq1, lq2, lq3, lq4, lq5, lq6])
  refine wt (i := 3) (v := ?vt1q3x11) rfl ?ht1q3x11 ?rt1q3x11
  case ht1q3x11 => (intro w hSw; (try dsimp only at hSw); go_simp; try with_reducible rfl)
  (try simp only [Act.put, lq1, lq2, lq3, lq4, lq5, lq6])
  refine wt (i := 4) (v := ?vt1q4x14) rfl ?ht1q4x14 ?rt1q4x14
  case ht1q4x14 => (intro w hSw; (try dsimp only at hSw); go_simp; try with_reducible rfl)
  (try simp only [Act.put, lq1, lq2, lq3, lq4, lq5, lq6])
  refine wt (i := 7) (v := ?vt1q7x17) rfl ?ht1q7x17 ?rt1q7x17
  case ht1q7x17 => (intro w hSw; (try dsimp only at hSw); go_simp; try with_reducible rfl)
  (try simp only [Act.put, lq1, lq2, lq3, lq4, lq5, lq6])
  refine wt (i := 8) (v := ?vt1q8x20) rfl ?ht1q8x20 ?rt1q8x20
  case ht1q8x20 => (intro w hSw; (try dsimp only at hSw); go_simp; try with_reducible rfl)
  (try simp only [Act.put, lq1, lq2, lq3, lq4, lq5, lq6])
  refine wt (i := 9) (v := ?vt1q9x23) rfl ?ht1q9x23 ?rt1q9x23
  case ht1q9x23 => (intro w hSw; (try dsimp only at hSw); go_simp; try with_reducible rfl)
  (try simp only [Act.put, lq1, lq2, lq3, lq4, lq5, lq6])
  refine wt (i := 10) (v := ?vt1q10x26) rfl ?ht1q10x26 ?rt1q10x26
  case ht1q10x26 => (intro w hSw; (try dsimp only at hSw); go_simp; try with_reducible rfl)
  (try simp only [Act.put, lq1, lq2, lq3, lq4, lq5, lq6])
  refine wt (i := 11) (v := ?vt1q11x29) rfl ?ht1q11x29 ?rt1q11x29
  case ht1q11x29 => (intro w hSw; (try dsimp only at hSw); go_simp; try with_reducible rfl)
  (try simp only [Act.put, lq1, lq2, lq3, lq4, lq5, lq6])
  refine wpAnyH_ready (rs := [5]) (by kernel_rfl) (by simp) ?_
  refine AllReadyH.cons rfl (fun K hK => ?_) AllReadyH.nil
  go_simp
  go_wp2_with ((go_at_call 69; refine (H1.out _).mono ?_; rintro e w9 ⟨rfl, hB⟩))
  replace hB := hB.out
  (with_reducible first | replace hB := undr hB | skip)
  replace E := E.below hB
  clear hB
  refine hK.out _ _ ?_ (fun hHeld => ?_)
  · (try dsimp only); (with_reducible first | exact E.all | exact E.drew.all)
  clear hK K
  refine wt (i := 6) (v := ?vt1q6x43) rfl ?ht1q6x43 ?rt1q6x43
  case ht1q6x43 => (intro w hSw; (try dsimp only at hSw); go_simp; try with_reducible rfl)
  (try simp only [Act.put, lq1, lq2, lq3, lq4, lq5, lq6])
  refine wpAnyH_ready (rs := [12]) (by kernel_rfl) (by simp) ?_
  refine AllReadyH.cons rfl (fun K hK => ?_) AllReadyH.nil
  go_simp
  go_wp2_with ((go_at_call 69; refine (H2.out _).mono ?_; rintro e w9 ⟨rfl, hB⟩))
  replace hB := hB.out
  (with_reducible first | replace hB := undr hB | skip)
  replace E := E.below hB
  clear hB
  refine hK.out _ _ ?_ (fun hHeld => ?_)
  · (try dsimp only); (with_reducible first | exact E.all | exact E.drew.all)
  clear hK K
  refine wt (i := 14) (v := ?vt1q14x57) rfl ?ht1q14x57 ?rt1q14x57
  case ht1q14x57 => (intro w hSw; (try dsimp only at hSw); go_simp; try with_reducible rfl)
  (try simp only [Act.put, lq1, lq2, lq3, lq4, lq5, lq6])
  refine wt (i := 13) (v := ?vt1q13x60) rfl ?ht1q13x60 ?rt1q13x60
  case ht1q13x60 => (intro w hSw; (try dsimp only at hSw); go_simp; try with_reducible rfl)
  (try simp only [Act.put, lq1, lq2, lq3, lq4, lq5, lq6])
  refine wt (i := 15) (v := ?vt1q15x63) rfl ?ht1q15x63 ?rt1q15x63
  case ht1q15x63 => (intro w hSw; (try dsimp only at hSw); go_simp; try with_reducible rfl)
  (try simp only [Act.put, lq1, lq2, lq3, lq4, lq5, lq6])
  refine wpAnyH_done (by kernel_rfl) ?_ _
  by_cases c1 : 0 < a
  · by_cases c2 : 0 < b
    · obtain rfl : res = decide (c < 0) := by rw [HR.out]; simp [c1, c2]
      clear HR
      obtain ⟨⟨a0, a1, a2, a3⟩, ⟨b0, b1⟩, d0, d1⟩ := E.all
      go_wp2_with ((go_at_call 69; refine (H3.out _).mono ?_; rintro e w9 ⟨rfl, hB⟩))
      go_ret
      exact ⟨rfl, Gr.step E.g hB.out⟩
    · obtain rfl : res = false := by rw [HR.out]; simp [c1, c2]
      clear HR
      go_wp2
      go_ret
      exact ⟨by first | rfl | exact congrArg (fun x => Ending.returned (.bool x)) (decide_eq_false (by omega)), by first | exact E.g | exact E.drew.g⟩
  · by_cases c2 : 0 < b
    · obtain rfl : res = true := by rw [HR.out]; simp [c1, c2]
      clear HR
      go_wp2
      go_ret
      exact ⟨by first | rfl | exact congrArg (fun x => Ending.returned (.bool x)) (decide_eq_true (by omega)), by first | exact E.g | exact E.drew.g⟩
    · obtain rfl : res = decide (c < 0) := by rw [HR.out]; simp [c1, c2]
      clear HR
      obtain ⟨⟨a0, a1, a2, a3⟩, ⟨b0, b1⟩, d0, d1⟩ := E.all
      go_wp2_with ((go_at_call 69; refine (H3.out _).mono ?_; rintro e w9 ⟨rfl, hB⟩))
      go_ret
      exact ⟨rfl, Gr.step E.g hB.out⟩
/-- A vector between two places. -/
def okD (p : Sp) : Prop := (-33554432 ≤ p.1 ∧ p.1 ≤ 33554432) ∧ -33554432 ≤ p.2 ∧ p.2 ≤ 33554432
/-- The cross and the inner product of two vectors. -/
def xp (a b : Sp) : Int := a.1 * b.2 - a.2 * b.1
def ip (a b : Sp) : Int := a.1 * b.1 + a.2 * b.2
/-- How many quarters of a turn with the clock lie between two vectors. -/
def cwN (a b : Sp) : Int := if xp a b < 0 then 1 else if 0 < xp a b then 3 else if 0 < ip a b then 0 else 2
/-- The reference's sooner. -/
def srP (a b c : Sp) : Prop := if cwN a b = cwN a c then xp b c < 0 else cwN a b < cwN a c
instance (a b c : Sp) : Decidable (srP a b c) := by unfold srP; exact inferInstance
structure V3 (w W : World) (p s r : Sp) : Prop where
  a : At W w.heap.size [.int .i64 p.1, .int .i64 p.2]
  b : At W (w.heap.size + 1) [.int .i64 s.1, .int .i64 s.2]
  c : At W (w.heap.size + 1 + 1) [.int .i64 r.1, .int .i64 r.2]
  g : Gr w W
theorem V3.new (w : World) (p s r : Sp) : V3 w (((w.alloc (.cells #[.int .i64 p.1, .int .i64 p.2] 52)).alloc (.cells #[.int .i64 s.1, .int .i64 s.2] 52)).alloc (.cells #[.int .i64 r.1, .int .i64 r.2] 52)) p s r where
  a := ((At.new2 w _ _ _).alloc _).alloc _
  b := (At.nx2 _ _ _ _).alloc _
  c := At.at2 (by simp) _ _ _
  g := (((Gr.refl w).alloc _).alloc _).alloc _
theorem V3.below {w W w' : World} {p s r : Sp} (h : V3 w W p s r) (hB : Below W.heap.size W w') : V3 w w' p s r := ⟨At.below hB h.a, At.below hB h.b, At.below hB h.c, Gr.step h.g hB⟩
end Go.Proofs.YtnadgoomkaldkaaDoor
namespace Go.Proofs.YtnadgoomkaldkaaDoor
open Go.RowKit

/-- The vector from a point to another one. -/
def dfS (a b : Sp) : Sp := (b.1 - a.1, b.2 - a.2)
theorem tn_xp (a b c : Sp) : tn a b c = xp (dfS a b) (dfS a c) := by unfold tn xp dfS; grind
theorem xp_sw (a b : Sp) : xp b a = -xp a b := by unfold xp; grind
theorem sq_pos {x : Int} (h : ¬ x = 0) : 0 < x * x := by
  rcases Int.lt_or_le x 0 with c | c
  · exact Int.mul_pos_of_neg_of_neg c c
  · exact Int.mul_pos (by omega) (by omega)
theorem sq_nn (x : Int) : 0 ≤ x * x := by
  by_cases c : x = 0
  · subst c; decide
  · exact Int.le_of_lt (sq_pos c)
theorem ip_self {a : Sp} (h : ¬ a = (0, 0)) : 0 < ip a a := by
  unfold ip
  have h1 := sq_nn a.1
  have h2 := sq_nn a.2
  by_cases c : a.1 = 0
  · have : ¬ a.2 = 0 := fun k => h (Prod.ext c k)
    have := sq_pos this
    omega
  · have := sq_pos c
    omega
/-- Two vectors that do not stand at right angles where one goes along the other. -/
theorem ip_ne {a b : Sp} (ha : ¬ a = (0, 0)) (hb : ¬ b = (0, 0)) (h : xp a b = 0) : ¬ ip a b = 0 := fun k => by
  have e : ip a a * ip b b = ip a b * ip a b + xp a b * xp a b := by unfold ip xp; grind
  rw [h, k] at e
  have := Int.mul_pos (ip_self ha) (ip_self hb)
  omega
theorem xp_ip (f a b : Sp) : ip f f * xp a b = ip f a * xp f b - ip f b * xp f a := by unfold ip xp; grind
theorem xp_three (f a b c : Sp) : xp f b * xp a c = xp f a * xp b c + xp f c * xp a b := by unfold xp; grind
/-- The same direction. -/
def sdrP (a b : Sp) : Prop := xp a b = 0 ∧ 0 < ip a b
theorem ps_ng {a b : Int} (ha : 0 < a) (h : a * b < 0) : b < 0 := by
  rcases Int.lt_or_le b 0 with c | c
  · exact c
  · have := Int.mul_nonneg (Int.le_of_lt ha) c
    omega
theorem ps_ps {a b : Int} (ha : 0 < a) (h : 0 < a * b) : 0 < b := by
  rcases Int.lt_or_le 0 b with c | c
  · exact c
  · have := Int.mul_nonneg (Int.le_of_lt ha) (show 0 ≤ -b by omega)
    rw [Int.mul_neg] at this
    omega
theorem opp_1 {f a b : Sp} (hf : ¬ f = (0, 0)) (hb : ¬ b = (0, 0)) (h1 : xp f a < 0) (h2 : xp f b = 0) (h3 : ¬ 0 < ip f b) : xp a b < 0 := by
  have e := xp_ip f a b
  have h4 := ip_ne hf hb h2
  have h5 : ip f b < 0 := by omega
  have h6 := Int.mul_pos_of_neg_of_neg h5 h1
  rw [h2, Int.mul_zero] at e
  exact ps_ng (ip_self hf) (by omega)
/-- Vectors out of a node, with the clock from f on: what the program asks (with the sides of f alone). -/
def cyP (f a b : Sp) : Prop := if (0 < xp f a ↔ 0 < xp f b) then xp a b < 0 else 0 < xp f b
instance (f a b : Sp) : Decidable (cyP f a b) := by unfold cyP; exact inferInstance
theorem sn_cy (p : Pc) (s r : Sp) : snP p s r ↔ cyP (dfS p.1 p.2) (dfS p.1 s) (dfS p.1 r) := by
  unfold snP cyP
  rw [tn_xp, tn_xp, tn_xp]
theorem cw_three {f x : Sp} (hx : ¬ sdrP f x) : (cwN f x = 1 ∧ xp f x < 0) ∨ (cwN f x = 3 ∧ 0 < xp f x) ∨ (cwN f x = 2 ∧ xp f x = 0) := by
  unfold cwN
  unfold sdrP at hx
  split
  · omega
  · split
    · omega
    · split
      · exact absurd ⟨by omega, by assumption⟩ hx
      · omega
theorem sr_cy {f a b : Sp} (hf : ¬ f = (0, 0)) (ha : ¬ a = (0, 0)) (hb : ¬ b = (0, 0)) (ka : ¬ sdrP f a) (kb : ¬ sdrP f b) : srP f a b ↔ cyP f a b := by
  have o1 : xp f a < 0 → xp f b = 0 → xp a b < 0 := fun h k => opp_1 hf hb h k (fun hx => kb ⟨k, hx⟩)
  have o2 : xp f b < 0 → xp f a = 0 → xp b a < 0 := fun h k => opp_1 hf ha h k (fun hx => ka ⟨k, hx⟩)
  have e := xp_sw a b
  rw [e] at o2
  have ta := cw_three ka
  have tb := cw_three kb
  unfold srP cyP
  generalize xp f a = x at *
  generalize xp f b = y at *
  generalize xp a b = z at *
  generalize cwN f a = u at *
  generalize cwN f b = v at *
  clear e
  split <;> split <;> omega
/-- Of two directions, none of which is the other, one comes sooner; not both. -/
theorem cy_asym {f a b : Sp} (h : cyP f a b) (k : cyP f b a) : False := by
  have e := xp_sw a b
  unfold cyP at h k
  rw [e] at k
  generalize xp f a = x at *
  generalize xp f b = y at *
  generalize xp a b = z at *
  by_cases c1 : (0 < x ↔ 0 < y)
  · rw [if_pos c1] at h
    rw [if_pos c1.symm] at k
    omega
  · rw [if_neg c1] at h
    rw [if_neg (fun hx => c1 hx.symm)] at k
    omega
theorem cy_tot {f a b : Sp} (hf : ¬ f = (0, 0)) (ha : ¬ a = (0, 0)) (hb : ¬ b = (0, 0)) (ka : ¬ sdrP f a) (kb : ¬ sdrP f b) (kab : ¬ sdrP a b) : cyP f a b ∨ cyP f b a := by
  have e := xp_sw a b
  have hz : xp a b = 0 → (0 < xp f a ∧ ¬ 0 < xp f b) ∨ (¬ 0 < xp f a ∧ 0 < xp f b) := fun h0 => by
    have n1 := ip_ne ha hb h0
    have n2 : ip a b < 0 := by
      have : ¬ 0 < ip a b := fun hx => kab ⟨h0, hx⟩
      omega
    have q1 : ip a a * xp f b = ip a b * xp f a := by
      have := xp_ip a f b
      rw [h0, xp_sw f a] at this
      grind
    rcases Int.lt_or_le 0 (xp f a) with c | c
    · exact .inl ⟨c, fun hx => by
        have h1 := Int.mul_pos (ip_self ha) hx
        have h2 := Int.mul_neg_of_neg_of_pos n2 c
        omega⟩
    · refine .inr ⟨by omega, ?_⟩
      have n0 : ¬ xp f a = 0 := fun h1 => by
        rw [h1, Int.mul_zero] at q1
        have h2 : xp f b = 0 := by
          rcases Int.mul_eq_zero.1 q1 with h | h
          · exact absurd h (by have := ip_self ha; omega)
          · exact h
        have m1 : ip f a < 0 := by have := ip_ne hf ha h1; have : ¬ 0 < ip f a := fun hx => ka ⟨h1, hx⟩; omega
        have m2 : ip f b < 0 := by have := ip_ne hf hb h2; have : ¬ 0 < ip f b := fun hx => kb ⟨h2, hx⟩; omega
        have q2 : ip f f * ip a b = ip f a * ip f b + xp f a * xp f b := by unfold ip xp; grind
        rw [h1, h2] at q2
        have := Int.mul_pos_of_neg_of_neg m1 m2
        have := Int.mul_neg_of_pos_of_neg (ip_self hf) n2
        omega
      refine ps_ps (ip_self ha) ?_
      rw [q1]
      exact Int.mul_pos_of_neg_of_neg n2 (by omega)
  unfold cyP
  rw [e]
  generalize xp f a = x at *
  generalize xp f b = y at *
  generalize xp a b = z at *
  by_cases c0 : z = 0
  · rcases hz c0 with ⟨c1, c2⟩ | ⟨c1, c2⟩
    · exact .inr (by rw [if_neg (fun hx => c2 (hx.2 c1))]; exact c1)
    · exact .inl (by rw [if_neg (fun hx => c1 (hx.2 c2))]; exact c2)
  · by_cases c1 : (0 < x ↔ 0 < y)
    · rw [if_pos c1, if_pos c1.symm]
      omega
    · rw [if_neg c1, if_neg (fun hx => c1 hx.symm)]
      omega
/-- No way comes first from two directions, none of which it is. -/
theorem cy_one {f g v : Sp} (h : cyP f v g) (k : cyP g v f) : False := by
  unfold cyP at h k
  rw [xp_sw v g, xp_sw f g, xp_sw f v] at k
  generalize xp f v = x at *
  generalize xp f g = y at *
  generalize xp v g = z at *
  split at h <;> split at k <;> omega
/-- Transitive. -/
theorem cy_trans {f a b c : Sp} (hf : ¬ f = (0, 0)) (ha : ¬ a = (0, 0)) (hc : ¬ c = (0, 0)) (ka : ¬ sdrP f a) (kb : ¬ sdrP f b) (kc : ¬ sdrP f c) (hb : ¬ b = (0, 0)) (h : cyP f a b) (k : cyP f b c) : cyP f a c := by
  rw [← sr_cy hf ha hb ka kb] at h
  rw [← sr_cy hf hb hc kb kc] at k
  rw [← sr_cy hf ha hc ka kc]
  have e := xp_three f a b c
  have kb2 : xp f b = 0 → ip f b ≤ 0 := fun h0 => by have : ¬ 0 < ip f b := fun hx => kb ⟨h0, hx⟩; omega
  unfold srP at h k ⊢
  have w1 : cwN f a = cwN f b → cwN f b = cwN f c → xp a b < 0 → xp b c < 0 → xp a c < 0 := fun q1 q2 q3 q4 => by
    have ta := cw_three ka
    have tb := cw_three kb
    have tc := cw_three kc
    rcases tb with ⟨c0, s0⟩ | ⟨c0, s0⟩ | ⟨c0, s0⟩
    · have sa : xp f a < 0 := by omega
      have sc : xp f c < 0 := by omega
      have p1 := Int.mul_pos_of_neg_of_neg sa q4
      have p2 := Int.mul_pos_of_neg_of_neg sc q3
      have p3 : 0 < (-xp f b) * (-xp a c) := by rw [Int.neg_mul_neg]; omega
      have := ps_ps (by omega) p3
      omega
    · have sa : 0 < xp f a := by omega
      have sc : 0 < xp f c := by omega
      have p1 := Int.mul_neg_of_pos_of_neg sa q4
      have p2 := Int.mul_neg_of_pos_of_neg sc q3
      exact ps_ng s0 (by omega)
    · have sa : xp f a = 0 := by omega
      have e2 := xp_ip f a b
      rw [sa, s0, Int.mul_zero, Int.mul_zero] at e2
      have := Int.mul_neg_of_pos_of_neg (ip_self hf) q3
      omega
  split at h <;> split at k <;> split <;> first | (apply w1 <;> omega) | omega
end Go.Proofs.YtnadgoomkaldkaaDoor
namespace Go.Proofs.YtnadgoomkaldkaaDoor
open Go.RowKit
attribute [local go_sem ↓] Go.wp_at_zero Go.wp_at_succ

/-- The first piece of a way, out of its node. -/
def ouP (Ls : List (List Sp)) (k : Nat) : Pc := if k % 2 = 0 then (sx (lx Ls (k / 2)) 0, sx (lx Ls (k / 2)) 1) else (sx (lx Ls (k / 2)) ((lx Ls (k / 2)).length - 1), sx (lx Ls (k / 2)) ((lx Ls (k / 2)).length - 2))
theorem nindex (ad : Option Addr) (n cap : Nat) (i : Int) (w : World) : (Instr.indexAt 61 (.slice ad n cap) (.int .i64 i)).run Tryd.prog w = (Instr.indexAt 30 (.slice ad n cap) (.int .i64 i)).run Tryd.prog w := by
  have h1 : Tryd.prog.underlying 61 = some (.slice (Tryd.prog.elem 61)) := by kernel_rfl
  have h2 : Tryd.prog.underlying 30 = some (.slice (Tryd.prog.elem 30)) := by kernel_rfl
  have h3 : Tryd.prog.elem 61 = Tryd.prog.elem 30 := by kernel_rfl
  cases ad with
  | some a => rw [run_indexAt_slice (P := Tryd.prog) (w := w) _ _ _ _ _ _ h1, run_indexAt_slice (P := Tryd.prog) (w := w) _ _ _ _ _ _ h2, h3]
  | none => simp [Instr.indexAt, run_underlying h1, run_underlying h2, asIntOf]
set_option maxRecDepth 4000 in
set_option maxHeartbeats 4000000 in
theorem out_any {ad : Option Addr} {b o cap k : Nat} {Ls : List (List Sp)} (w : World) (h : LLs w ad b o cap Ls) (hk : k < 2 * Ls.length) (hN : Ls.length ≤ 5000) (h2 : 2 ≤ (lx Ls (k / 2)).length) (ll : (lx Ls (k / 2)).length ≤ 5000) : Calls Tryd.prog 66 #[.slice ad Ls.length cap, .int .i64 k] w fun e w' => e = .returned (pv (ouP Ls k)) ∧ Gr w w' := by
  have e1 : (k : Int).tmod 2 = ((k % 2 : Nat) : Int) := by rw [Int.tmod_eq_emod_of_nonneg (by omega)]; omega
  have e2 : (k : Int).tdiv 2 = ((k / 2 : Nat) : Int) := by rw [Int.tdiv_eq_ediv_of_nonneg (by omega)]; omega
  have e3 : IntKind.i64.wrap ((k / 2 : Nat) : Int) = ((k / 2 : Nat) : Int) := wr_in (by omega) (by omega)
  have e6 : IntKind.i64.wrap ((k % 2 : Nat) : Int) = ((k % 2 : Nat) : Int) := wr_in (by omega) (by omega)
  have hi : k / 2 < Ls.length := by omega
  have ix := fun w => (nindex ad Ls.length cap ((k / 2 : Nat) : Int) w).trans (h.ix (k / 2) hi w)
  obtain ⟨⟨ad', b', o', cap', c0, hS⟩, hb⟩ := h.row (k / 2) hi
  have HG := hidb (fun v => (Gr.refl w).alloc v)
  unfold ouP
  generalize k / 2 = i at *
  generalize lx Ls i = a at *
  obtain ⟨m, hm⟩ : ∃ m, a.length = m + 2 := ⟨a.length - 2, by omega⟩
  by_cases c : k % 2 = 0
  · rw [if_pos c]
    rw [c] at e1 e6
    have ix0 := hS.ix 0 (by omega)
    have ix1 := hS.ix 1 (by omega)
    have r0 := (hS.row 0 (by omega))
    have r1 := (hS.row 1 (by omega))
    rw [Nat.zero_mul, Nat.add_zero] at ix0 r0
    rw [Nat.one_mul] at ix1 r1
    push_cast at ix0 ix1
    have HQ := hidb (fun W (hW : Gr w W) => And.intro (by have := ((hS.gr hW).row 0 (by omega)).1; rw [Nat.zero_mul, Nat.add_zero] at this; exact this) (by have := ((hS.gr hW).row 1 (by omega)).1; rw [Nat.one_mul] at this; exact this))
    have hW := At.new4 w (.int .i64 0) (.int .i64 0) (.int .i64 0) (.int .i64 0) 84
    have G1 := HG.out (.cells #[.int .i64 0, .int .i64 0, .int .i64 0, .int .i64 0] 84)
    have d0 := (G1.out.cell (p := ⟨b, o + i, none⟩) hb).trans c0
    have q0 := G1.out.size
    generalize sx a 0 = p at *
    generalize sx a 1 = q at *
    clear r0 r1 hm
    clear HG c0 hS h hi hk hN h2 ll c e6
    go_enter Tryd.func66, Tryd.ntmps66
    go_upto_region 1 with fail
    generalize w.alloc (.cells #[.int .i64 0, .int .i64 0, .int .i64 0, .int .i64 0] 84) = W1 at *
    have FW : At ((((W1.setCell ⟨w.heap.size, 0, none⟩ (.int .i64 p.1)).setCell ⟨w.heap.size, 1, none⟩ (.int .i64 p.2)).setCell ⟨w.heap.size, 2, none⟩ (.int .i64 q.1)).setCell ⟨w.heap.size, 3, none⟩ (.int .i64 q.2)) w.heap.size [.int .i64 p.1, .int .i64 p.2, .int .i64 q.1, .int .i64 q.2] := (((hW.put 0 (.int .i64 p.1)).put 1 (.int .i64 p.2)).put 2 (.int .i64 q.1)).put 3 (.int .i64 q.2)
    obtain ⟨z0, z1, z2, z3⟩ := FW.c4
    obtain ⟨y0, y1, y2, y3⟩ := hW.c4
    have x0 : W1.frozen? ⟨w.heap.size, 0, none⟩ = false := (hW.1 0 (by simp)).2
    have x1 : W1.frozen? ⟨w.heap.size, 1, none⟩ = false := (hW.1 1 (by simp)).2
    have x2 : W1.frozen? ⟨w.heap.size, 2, none⟩ = false := (hW.1 2 (by simp)).2
    have x3 : W1.frozen? ⟨w.heap.size, 3, none⟩ = false := (hW.1 3 (by simp)).2
    clear FW
    go_upto_region 3 with fail
    refine wp_region_held_drew (S := (fun w' => (w'.cell? ⟨b', o', none⟩ = some (.int .i64 p.1) ∧ w'.cell? ⟨b', o' + 1, none⟩ = some (.int .i64 p.2)) ∧ w'.cell? ⟨b', o' + 2, none⟩ = some (.int .i64 q.1) ∧ w'.cell? ⟨b', o' + 2 + 1, none⟩ = some (.int .i64 q.2))) (by kernel_rfl) ?_ (fun hHeld => ?_)
    · (try dsimp only); (refine HQ.out _ ?_; ((with_reducible repeat' (first | assumption | refine Gr.drew ?_ | refine Gr.alloc ?_ _ | refine Gr.set ?_ (by first | omega | (simp; omega)) _ _ | exact Gr.refl _)); done))
    refine wt (i := 0) (v := ?vt1q0x2) rfl ?ht1q0x2 ?rt1q0x2
    case ht1q0x2 => (intro w hSw; (try dsimp only at hSw); go_simp; try with_reducible rfl)
    (try simp only [Act.put, lq1, lq2, lq4, lq5, lq6])
    refine wt (i := 1) (v := ?vt1q1x5) rfl ?ht1q1x5 ?rt1q1x5
    case ht1q1x5 => (intro w hSw; (try dsimp only at hSw); go_simp; try with_reducible rfl)
    (try simp only [Act.put, lq1, lq2, lq3, lq4, lq5, lq6])
    refine wt (i := 2) (v := ?vt1q2x8) rfl ?ht1q2x8 ?rt1q2x8
    case ht1q2x8 => (intro w hSw; (try dsimp only at hSw); go_simp; try with_reducible rfl)
    (try simp only [Act.put, lq1, lq2, lq3, lq4, lq5, lq6])
    refine wt (i := 3) (v := ?vt1q3x11) rfl ?ht1q3x11 ?rt1q3x11
    case ht1q3x11 => (intro w hSw; (try dsimp only at hSw); go_simp; try with_reducible rfl)
    (try simp only [Act.put, lq1, lq2, lq3, lq4, lq5, lq6])
    refine wt (i := 4) (v := ?vt1q4x14) rfl ?ht1q4x14 ?rt1q4x14
    case ht1q4x14 => (intro w hSw; (try dsimp only at hSw); go_simp; try with_reducible rfl)
    (try simp only [Act.put, lq1, lq2, lq3, lq4, lq5, lq6])
    refine wt (i := 5) (v := ?vt1q5x17) rfl ?ht1q5x17 ?rt1q5x17
    case ht1q5x17 => (intro w hSw; (try dsimp only at hSw); go_simp; try with_reducible rfl)
    (try simp only [Act.put, lq1, lq2, lq3, lq4, lq5, lq6])
    refine wt (i := 6) (v := ?vt1q6x20) rfl ?ht1q6x20 ?rt1q6x20
    case ht1q6x20 => (intro w hSw; (try dsimp only at hSw); go_simp; try with_reducible rfl)
    (try simp only [Act.put, lq1, lq2, lq3, lq4, lq5, lq6])
    refine wpAnyH_ready (rs := [7]) (by kernel_rfl) (by simp) ?_
    refine AllReadyH.cons rfl (fun K hK => ?_) AllReadyH.nil
    go_simp
    refine hK.out _ _ ?_ (fun hHeld => ?_)
    · (try dsimp only); (refine HQ.out _ ?_; ((with_reducible repeat' (first | assumption | refine Gr.drew ?_ | refine Gr.alloc ?_ _ | refine Gr.set ?_ (by first | omega | (simp; omega)) _ _ | exact Gr.refl _)); done))
    clear hK K
    refine wpAnyH_done (by kernel_rfl) ?_ _
    go_wp2
    refine bodyPost_ret (v := pv (p, q)) (by simp [results, Tryd.results66, go_sem, z0, z1, z2, z3, pv]) rfl ⟨rfl, ?_⟩
    ((with_reducible repeat' (first | assumption | refine Gr.drew ?_ | refine Gr.alloc ?_ _ | refine Gr.set ?_ (by first | omega | (simp; omega)) _ _ | exact Gr.refl _)); done)
  · rw [if_neg c]
    rw [show k % 2 = 1 by omega] at e1 e6
    have ix0 := hS.ix (m + 1) (by omega)
    have ix1 := hS.ix m (by omega)
    have HQ := hidb (fun W (hW : Gr w W) => And.intro ((hS.gr hW).row (m + 1) (by omega)).1 ((hS.gr hW).row m (by omega)).1)
    rw [hm] at c0 ix0 ix1 ⊢
    rw [show m + 2 - 1 = m + 1 by omega, show m + 2 - 2 = m by omega]
    have f1 : IntKind.i64.wrap (((m + 2 : Nat) : Int) - 1) = ((m + 1 : Nat) : Int) := by rw [show ((m + 2 : Nat) : Int) - 1 = ((m + 1 : Nat) : Int) by omega]; exact wr_in (by omega) (by omega)
    have f2 : IntKind.i64.wrap (((m + 2 : Nat) : Int) - 2) = (m : Int) := by rw [show ((m + 2 : Nat) : Int) - 2 = (m : Int) by omega]; exact wr_in (by omega) (by omega)
    have hW := At.new4 w (.int .i64 0) (.int .i64 0) (.int .i64 0) (.int .i64 0) 84
    have G1 := HG.out (.cells #[.int .i64 0, .int .i64 0, .int .i64 0, .int .i64 0] 84)
    have d0 := (G1.out.cell (p := ⟨b, o + i, none⟩) hb).trans c0
    have q0 := G1.out.size
    generalize sx a (m + 1) = p at *
    generalize sx a m = q at *
    generalize m + 1 = m1 at *
    generalize m + 2 = m2 at *
    clear hm
    clear HG c0 hS h hi hk hN h2 ll c e6
    go_enter Tryd.func66, Tryd.ntmps66
    go_upto_region 1 with fail
    generalize w.alloc (.cells #[.int .i64 0, .int .i64 0, .int .i64 0, .int .i64 0] 84) = W1 at *
    have FW : At ((((W1.setCell ⟨w.heap.size, 0, none⟩ (.int .i64 p.1)).setCell ⟨w.heap.size, 1, none⟩ (.int .i64 p.2)).setCell ⟨w.heap.size, 2, none⟩ (.int .i64 q.1)).setCell ⟨w.heap.size, 3, none⟩ (.int .i64 q.2)) w.heap.size [.int .i64 p.1, .int .i64 p.2, .int .i64 q.1, .int .i64 q.2] := (((hW.put 0 (.int .i64 p.1)).put 1 (.int .i64 p.2)).put 2 (.int .i64 q.1)).put 3 (.int .i64 q.2)
    obtain ⟨z0, z1, z2, z3⟩ := FW.c4
    obtain ⟨y0, y1, y2, y3⟩ := hW.c4
    have x0 : W1.frozen? ⟨w.heap.size, 0, none⟩ = false := (hW.1 0 (by simp)).2
    have x1 : W1.frozen? ⟨w.heap.size, 1, none⟩ = false := (hW.1 1 (by simp)).2
    have x2 : W1.frozen? ⟨w.heap.size, 2, none⟩ = false := (hW.1 2 (by simp)).2
    have x3 : W1.frozen? ⟨w.heap.size, 3, none⟩ = false := (hW.1 3 (by simp)).2
    clear FW
    go_upto_region 4 with fail
    refine wp_region_held_drew (S := (fun w' => (w'.cell? ⟨b', o' + m1 * 2, none⟩ = some (.int .i64 p.1) ∧ w'.cell? ⟨b', o' + m1 * 2 + 1, none⟩ = some (.int .i64 p.2)) ∧ w'.cell? ⟨b', o' + m * 2, none⟩ = some (.int .i64 q.1) ∧ w'.cell? ⟨b', o' + m * 2 + 1, none⟩ = some (.int .i64 q.2))) (by kernel_rfl) ?_ (fun hHeld => ?_)
    · (try dsimp only); (refine HQ.out _ ?_; ((with_reducible repeat' (first | assumption | refine Gr.drew ?_ | refine Gr.alloc ?_ _ | refine Gr.set ?_ (by first | omega | (simp; omega)) _ _ | exact Gr.refl _)); done))
    refine wt (i := 0) (v := ?vt2q0x2) rfl ?ht2q0x2 ?rt2q0x2
    case ht2q0x2 => (intro w hSw; (try dsimp only at hSw); go_simp; try with_reducible rfl)
    (try simp only [Act.put, lq1, lq2, lq4, lq5, lq6])
    refine wt (i := 1) (v := ?vt2q1x5) rfl ?ht2q1x5 ?rt2q1x5
    case ht2q1x5 => (intro w hSw; (try dsimp only at hSw); go_simp; try with_reducible rfl)
    (try simp only [Act.put, lq1, lq2, lq3, lq4, lq5, lq6])
    refine wt (i := 2) (v := ?vt2q2x8) rfl ?ht2q2x8 ?rt2q2x8
    case ht2q2x8 => (intro w hSw; (try dsimp only at hSw); go_simp; try with_reducible rfl)
    (try simp only [Act.put, lq1, lq2, lq3, lq4, lq5, lq6])
    refine wt (i := 3) (v := ?vt2q3x11) rfl ?ht2q3x11 ?rt2q3x11
    case ht2q3x11 => (intro w hSw; (try dsimp only at hSw); go_simp; try with_reducible rfl)
    (try simp only [Act.put, lq1, lq2, lq3, lq4, lq5, lq6])
    refine wt (i := 4) (v := ?vt2q4x14) rfl ?ht2q4x14 ?rt2q4x14
    case ht2q4x14 => (intro w hSw; (try dsimp only at hSw); go_simp; try with_reducible rfl)
    (try simp only [Act.put, lq1, lq2, lq3, lq4, lq5, lq6])
    refine wt (i := 5) (v := ?vt2q5x17) rfl ?ht2q5x17 ?rt2q5x17
    case ht2q5x17 => (intro w hSw; (try dsimp only at hSw); go_simp; try with_reducible rfl)
    (try simp only [Act.put, lq1, lq2, lq3, lq4, lq5, lq6])
    refine wt (i := 6) (v := ?vt2q6x20) rfl ?ht2q6x20 ?rt2q6x20
    case ht2q6x20 => (intro w hSw; (try dsimp only at hSw); go_simp; try with_reducible rfl)
    (try simp only [Act.put, lq1, lq2, lq3, lq4, lq5, lq6])
    refine wt (i := 7) (v := ?vt2q7x23) rfl ?ht2q7x23 ?rt2q7x23
    case ht2q7x23 => (intro w hSw; (try dsimp only at hSw); go_simp; try with_reducible rfl)
    (try simp only [Act.put, lq1, lq2, lq3, lq4, lq5, lq6])
    refine wt (i := 8) (v := ?vt2q8x26) rfl ?ht2q8x26 ?rt2q8x26
    case ht2q8x26 => (intro w hSw; (try dsimp only at hSw); go_simp; try with_reducible rfl)
    (try simp only [Act.put, lq1, lq2, lq3, lq4, lq5, lq6])
    refine wt (i := 9) (v := ?vt2q9x29) rfl ?ht2q9x29 ?rt2q9x29
    case ht2q9x29 => (intro w hSw; (try dsimp only at hSw); go_simp; try with_reducible rfl)
    (try simp only [Act.put, lq1, lq2, lq3, lq4, lq5, lq6])
    refine wt (i := 10) (v := ?vt2q10x32) rfl ?ht2q10x32 ?rt2q10x32
    case ht2q10x32 => (intro w hSw; (try dsimp only at hSw); go_simp; try with_reducible rfl)
    (try simp only [Act.put, lq1, lq2, lq3, lq4, lq5, lq6])
    refine wt (i := 11) (v := ?vt2q11x35) rfl ?ht2q11x35 ?rt2q11x35
    case ht2q11x35 => (intro w hSw; (try dsimp only at hSw); go_simp; try with_reducible rfl)
    (try simp only [Act.put, lq1, lq2, lq3, lq4, lq5, lq6])
    refine wt (i := 12) (v := ?vt2q12x38) rfl ?ht2q12x38 ?rt2q12x38
    case ht2q12x38 => (intro w hSw; (try dsimp only at hSw); go_simp; try with_reducible rfl)
    (try simp only [Act.put, lq1, lq2, lq3, lq4, lq5, lq6])
    refine wpAnyH_ready (rs := [13]) (by kernel_rfl) (by simp) ?_
    refine AllReadyH.cons rfl (fun K hK => ?_) AllReadyH.nil
    go_simp
    refine hK.out _ _ ?_ (fun hHeld => ?_)
    · (try dsimp only); (refine HQ.out _ ?_; ((with_reducible repeat' (first | assumption | refine Gr.drew ?_ | refine Gr.alloc ?_ _ | refine Gr.set ?_ (by first | omega | (simp; omega)) _ _ | exact Gr.refl _)); done))
    clear hK K
    refine wpAnyH_done (by kernel_rfl) ?_ _
    go_wp2
    refine bodyPost_ret (v := pv (p, q)) (by simp [results, Tryd.results66, go_sem, z0, z1, z2, z3, pv]) rfl ⟨rfl, ?_⟩
    ((with_reducible repeat' (first | assumption | refine Gr.drew ?_ | refine Gr.alloc ?_ _ | refine Gr.set ?_ (by first | omega | (simp; omega)) _ _ | exact Gr.refl _)); done)
end Go.Proofs.YtnadgoomkaldkaaDoor
