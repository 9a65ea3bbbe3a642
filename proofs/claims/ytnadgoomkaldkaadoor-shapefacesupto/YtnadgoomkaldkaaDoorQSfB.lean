/-
  shape.sooner; mercatorref5's clockwise and sooner.
-/
import Derived.Test.YtnadgoomkaldkaaDoorQSfA
namespace Go.Proofs.YtnadgoomkaldkaaDoor
open Go.RowKit
attribute [local go_sem ↓] Go.wp_at_zero Go.wp_at_succ

/-- Does an arrow that turns with the clock, from a piece on, point to s ahead of r? -/
def snP (p : Pc) (s r : Sp) : Prop := if (0 < tn p.1 p.2 s ↔ 0 < tn p.1 p.2 r) then tn p.1 s r < 0 else 0 < tn p.1 p.2 r
instance (p : Pc) (s r : Sp) : Decidable (snP p s r) := by unfold snP; exact inferInstance
structure S3 (w W : World) (p : Pc) (s r : Sp) : Prop where
  a : At W w.heap.size [.int .i64 p.1.1, .int .i64 p.1.2, .int .i64 p.2.1, .int .i64 p.2.2]
  b : At W (w.heap.size + 1) [.int .i64 s.1, .int .i64 s.2]
  c : At W (w.heap.size + 1 + 1) [.int .i64 r.1, .int .i64 r.2]
  g : Gr w W
theorem S3.new (w : World) (p : Pc) (s r : Sp) : S3 w (((w.alloc (.cells #[.int .i64 p.1.1, .int .i64 p.1.2, .int .i64 p.2.1, .int .i64 p.2.2] 84)).alloc (.cells #[.int .i64 s.1, .int .i64 s.2] 52)).alloc (.cells #[.int .i64 r.1, .int .i64 r.2] 52)) p s r where
  a := ((At.new4 w _ _ _ _ _).alloc _).alloc _
  b := (At.nx2 _ _ _ _).alloc _
  c := At.at2 (by simp) _ _ _
  g := (((Gr.refl w).alloc _).alloc _).alloc _
theorem S3.below {w W w' : World} {p : Pc} {s r : Sp} (h : S3 w W p s r) (hB : Below W.heap.size W w') : S3 w w' p s r := ⟨At.below hB h.a, At.below hB h.b, At.below hB h.c, Gr.step h.g hB⟩
theorem S3.drew {w W : World} {p : Pc} {s r : Sp} (h : S3 w W p s r) : S3 w W.drew p s r := ⟨h.a.drew, h.b.drew, h.c.drew, h.g.drew⟩
theorem S3.all {w W : World} {p : Pc} {s r : Sp} (h : S3 w W p s r) : (W.cell? ⟨w.heap.size, 0, none⟩ = some (.int .i64 p.1.1) ∧ W.cell? ⟨w.heap.size, 1, none⟩ = some (.int .i64 p.1.2) ∧ W.cell? ⟨w.heap.size, 2, none⟩ = some (.int .i64 p.2.1) ∧ W.cell? ⟨w.heap.size, 3, none⟩ = some (.int .i64 p.2.2)) ∧ (W.cell? ⟨w.heap.size + 1, 0, none⟩ = some (.int .i64 s.1) ∧ W.cell? ⟨w.heap.size + 1, 1, none⟩ = some (.int .i64 s.2)) ∧ W.cell? ⟨w.heap.size + 1 + 1, 0, none⟩ = some (.int .i64 r.1) ∧ W.cell? ⟨w.heap.size + 1 + 1, 1, none⟩ = some (.int .i64 r.2) := ⟨h.a.c4, h.b.c2, h.c.c2⟩
set_option maxRecDepth 4000 in
set_option maxHeartbeats 4000000 in
theorem ssooner_any {p : Pc} {s r : Sp} (hp : okP p) (hs : okS s) (hr : okS r) (w : World) : Calls Tryd.prog 67 #[pv p, sv s, sv r] w fun e w' => e = .returned (.bool (decide (snP p s r))) ∧ Gr w w' := by
  have H1 := hidb (fun w => turn_any hp.1 hp.2 hs w)
  have H2 := hidb (fun w => turn_any hp.1 hp.2 hr w)
  have H3 := hidb (fun w => turn_any hp.1 hs hr w)
  generalize hq : decide (snP p s r) = res
  have HR : Hid (res = decide (if (0 < tn p.1 p.2 s ↔ 0 < tn p.1 p.2 r) then tn p.1 s r < 0 else 0 < tn p.1 p.2 r)) := by rw [← hq]; exact decide_eq_decide.2 Iff.rfl
  clear hq hp hs hr
  generalize tn p.1 p.2 s = a at *
  generalize tn p.1 p.2 r = b at *
  generalize tn p.1 s r = c at *
  have E := S3.new w p s r
  go_enter Tryd.func67, Tryd.ntmps67
  go_upto_region 1 with fail
  generalize ((w.alloc (.cells #[.int .i64 p.1.1, .int .i64 p.1.2, .int .i64 p.2.1, .int .i64 p.2.2] 84)).alloc (.cells #[.int .i64 s.1, .int .i64 s.2] 52)).alloc (.cells #[.int .i64 r.1, .int .i64 r.2] 52) = W1 at *
  refine wp_region_held_drew (S := (fun w' => (w'.cell? ⟨w.heap.size, 0, none⟩ = some (.int .i64 p.1.1) ∧ w'.cell? ⟨w.heap.size, 1, none⟩ = some (.int .i64 p.1.2) ∧ w'.cell? ⟨w.heap.size, 2, none⟩ = some (.int .i64 p.2.1) ∧ w'.cell? ⟨w.heap.size, 3, none⟩ = some (.int .i64 p.2.2)) ∧ (w'.cell? ⟨w.heap.size + 1, 0, none⟩ = some (.int .i64 s.1) ∧ w'.cell? ⟨w.heap.size + 1, 1, none⟩ = some (.int .i64 s.2)) ∧ w'.cell? ⟨w.heap.size + 1 + 1, 0, none⟩ = some (.int .i64 r.1) ∧ w'.cell? ⟨w.heap.size + 1 + 1, 1, none⟩ = some (.int .i64 r.2))) (by kernel_rfl) ?_ (fun hHeld => ?_)
  · (try dsimp only); (with_reducible first | exact E.all | exact E.drew.all)
  refine wpAnyH_take (i := 0) (v := ?vt1q0x2) rfl (by kernel_rfl) (by kernel_rfl) (by kernel_rfl) (fun _ _ _ h => h) (Or.inl ⟨by kernel_rfl, ?ht1q0x2⟩) (by assumption) ?rt1q0x2
  case ht1q0x2 => (intro w hSw; (try dsimp only at hSw); go_simp; try with_reducible rfl)
  (try simp only [Act.put, List.getElem_toArray, List.getElem_cons_zero, List.setIfInBounds_toArray, List.set_cons_zero, List.set_cons_succ])
  refine wpAnyH_take (i := 1) (v := ?vt1q1x5) rfl (by kernel_rfl) (by kernel_rfl) (by kernel_rfl) (fun _ _ _ h => h) (Or.inl ⟨by kernel_rfl, ?ht1q1x5⟩) (by assumption) ?rt1q1x5
  case ht1q1x5 => (intro w hSw; (try dsimp only at hSw); go_simp; try with_reducible rfl)
  (try simp only [Act.put, List.getElem_toArray, List.getElem_cons_zero, List.getElem_cons_succ, List.setIfInBounds_toArray, List.set_cons_zero, List.set_cons_succ])
  refine wpAnyH_take (i := 2) (v := ?vt1q2x8) rfl (by kernel_rfl) (by kernel_rfl) (by kernel_rfl) (fun _ _ _ h => h) (Or.inl ⟨by kernel_rfl, ?ht1q2x8⟩) (by assumption) ?rt1q2x8
  case ht1q2x8 => (intro w hSw; (try dsimp only at hSw); go_simp; try with_reducible rfl)
  (try simp only [Act.put, List.getElem_toArray, List.getElem_cons_zero, List.getElem_cons_succ, List.setIfInBounds_toArray, List.set_cons_zero, List.set_cons_succ])
  refine wpAnyH_take (i := 3) (v := ?vt1q3x11) rfl (by kernel_rfl) (by kernel_rfl) (by kernel_rfl) (fun _ _ _ h => h) (Or.inl ⟨by kernel_rfl, ?ht1q3x11⟩) (by assumption) ?rt1q3x11
  case ht1q3x11 => (intro w hSw; (try dsimp only at hSw); go_simp; try with_reducible rfl)
  (try simp only [Act.put, List.getElem_toArray, List.getElem_cons_zero, List.getElem_cons_succ, List.setIfInBounds_toArray, List.set_cons_zero, List.set_cons_succ])
  refine wpAnyH_take (i := 4) (v := ?vt1q4x14) rfl (by kernel_rfl) (by kernel_rfl) (by kernel_rfl) (fun _ _ _ h => h) (Or.inl ⟨by kernel_rfl, ?ht1q4x14⟩) (by assumption) ?rt1q4x14
  case ht1q4x14 => (intro w hSw; (try dsimp only at hSw); go_simp; try with_reducible rfl)
  (try simp only [Act.put, List.getElem_toArray, List.getElem_cons_zero, List.getElem_cons_succ, List.setIfInBounds_toArray, List.set_cons_zero, List.set_cons_succ])
  refine wpAnyH_take (i := 7) (v := ?vt1q7x17) rfl (by kernel_rfl) (by kernel_rfl) (by kernel_rfl) (fun _ _ _ h => h) (Or.inl ⟨by kernel_rfl, ?ht1q7x17⟩) (by assumption) ?rt1q7x17
  case ht1q7x17 => (intro w hSw; (try dsimp only at hSw); go_simp; try with_reducible rfl)
  (try simp only [Act.put, List.getElem_toArray, List.getElem_cons_zero, List.getElem_cons_succ, List.setIfInBounds_toArray, List.set_cons_zero, List.set_cons_succ])
  refine wpAnyH_take (i := 8) (v := ?vt1q8x20) rfl (by kernel_rfl) (by kernel_rfl) (by kernel_rfl) (fun _ _ _ h => h) (Or.inl ⟨by kernel_rfl, ?ht1q8x20⟩) (by assumption) ?rt1q8x20
  case ht1q8x20 => (intro w hSw; (try dsimp only at hSw); go_simp; try with_reducible rfl)
  (try simp only [Act.put, List.getElem_toArray, List.getElem_cons_zero, List.getElem_cons_succ, List.setIfInBounds_toArray, List.set_cons_zero, List.set_cons_succ])
  refine wpAnyH_take (i := 9) (v := ?vt1q9x23) rfl (by kernel_rfl) (by kernel_rfl) (by kernel_rfl) (fun _ _ _ h => h) (Or.inl ⟨by kernel_rfl, ?ht1q9x23⟩) (by assumption) ?rt1q9x23
  case ht1q9x23 => (intro w hSw; (try dsimp only at hSw); go_simp; try with_reducible rfl)
  (try simp only [Act.put, List.getElem_toArray, List.getElem_cons_zero, List.getElem_cons_succ, List.setIfInBounds_toArray, List.set_cons_zero, List.set_cons_succ])
  refine wpAnyH_take (i := 10) (v := ?vt1q10x26) rfl (by kernel_rfl) (by kernel_rfl) (by kernel_rfl) (fun _ _ _ h => h) (Or.inl ⟨by kernel_rfl, ?ht1q10x26⟩) (by assumption) ?rt1q10x26
  case ht1q10x26 => (intro w hSw; (try dsimp only at hSw); go_simp; try with_reducible rfl)
  (try simp only [Act.put, List.getElem_toArray, List.getElem_cons_zero, List.getElem_cons_succ, List.setIfInBounds_toArray, List.set_cons_zero, List.set_cons_succ])
  refine wpAnyH_take (i := 11) (v := ?vt1q11x29) rfl (by kernel_rfl) (by kernel_rfl) (by kernel_rfl) (fun _ _ _ h => h) (Or.inl ⟨by kernel_rfl, ?ht1q11x29⟩) (by assumption) ?rt1q11x29
  case ht1q11x29 => (intro w hSw; (try dsimp only at hSw); go_simp; try with_reducible rfl)
  (try simp only [Act.put, List.getElem_toArray, List.getElem_cons_zero, List.getElem_cons_succ, List.setIfInBounds_toArray, List.set_cons_zero, List.set_cons_succ])
  refine wpAnyH_ready (rs := [5]) (by kernel_rfl) (by simp) ?_
  refine AllReadyH.cons rfl (fun K hK => ?_) AllReadyH.nil
  go_simp
  go_wp2_with ((go_at_call 69; refine (H1.out _).mono ?_; rintro e w9 ⟨rfl, hB⟩))
  replace hB := hB.out
  (with_reducible first | replace hB := undr hB | skip)
  replace E := E.below hB
  clear hB
  refine hK.out _ _ ?_ (fun hHeld => ?_)
  · (try dsimp only); (with_reducible first | exact E.all | exact E.drew.all)
  clear hK K
  refine wpAnyH_take (i := 6) (v := ?vt1q6x43) rfl (by kernel_rfl) (by kernel_rfl) (by kernel_rfl) (fun _ _ _ h => h) (Or.inl ⟨by kernel_rfl, ?ht1q6x43⟩) (by assumption) ?rt1q6x43
  case ht1q6x43 => (intro w hSw; (try dsimp only at hSw); go_simp; try with_reducible rfl)
  (try simp only [Act.put, List.getElem_toArray, List.getElem_cons_zero, List.getElem_cons_succ, List.setIfInBounds_toArray, List.set_cons_zero, List.set_cons_succ])
  refine wpAnyH_ready (rs := [12]) (by kernel_rfl) (by simp) ?_
  refine AllReadyH.cons rfl (fun K hK => ?_) AllReadyH.nil
  go_simp
  go_wp2_with ((go_at_call 69; refine (H2.out _).mono ?_; rintro e w9 ⟨rfl, hB⟩))
  replace hB := hB.out
  (with_reducible first | replace hB := undr hB | skip)
  replace E := E.below hB
  clear hB
  refine hK.out _ _ ?_ (fun hHeld => ?_)
  · (try dsimp only); (with_reducible first | exact E.all | exact E.drew.all)
  clear hK K
  refine wpAnyH_take (i := 14) (v := ?vt1q14x57) rfl (by kernel_rfl) (by kernel_rfl) (by kernel_rfl) (fun _ _ _ h => h) (Or.inl ⟨by kernel_rfl, ?ht1q14x57⟩) (by assumption) ?rt1q14x57
  case ht1q14x57 => (intro w hSw; (try dsimp only at hSw); go_simp; try with_reducible rfl)
  (try simp only [Act.put, List.getElem_toArray, List.getElem_cons_zero, List.getElem_cons_succ, List.setIfInBounds_toArray, List.set_cons_zero, List.set_cons_succ])
  refine wpAnyH_take (i := 13) (v := ?vt1q13x60) rfl (by kernel_rfl) (by kernel_rfl) (by kernel_rfl) (fun _ _ _ h => h) (Or.inl ⟨by kernel_rfl, ?ht1q13x60⟩) (by assumption) ?rt1q13x60
  case ht1q13x60 => (intro w hSw; (try dsimp only at hSw); go_simp; try with_reducible rfl)
  (try simp only [Act.put, List.getElem_toArray, List.getElem_cons_zero, List.getElem_cons_succ, List.setIfInBounds_toArray, List.set_cons_zero, List.set_cons_succ])
  refine wpAnyH_take (i := 15) (v := ?vt1q15x63) rfl (by kernel_rfl) (by kernel_rfl) (by kernel_rfl) (fun _ _ _ h => h) (Or.inl ⟨by kernel_rfl, ?ht1q15x63⟩) (by assumption) ?rt1q15x63
  case ht1q15x63 => (intro w hSw; (try dsimp only at hSw); go_simp; try with_reducible rfl)
  (try simp only [Act.put, List.getElem_toArray, List.getElem_cons_zero, List.getElem_cons_succ, List.setIfInBounds_toArray, List.set_cons_zero, List.set_cons_succ])
  refine wpAnyH_done (by kernel_rfl) ?_ _
  by_cases c1 : 0 < a
  · by_cases c2 : 0 < b
    · obtain rfl : res = decide (c < 0) := by rw [HR.out]; simp [c1, c2]
      clear HR
      obtain ⟨⟨a0, a1, a2, a3⟩, ⟨b0, b1⟩, d0, d1⟩ := E.all
      go_wp2_with ((go_at_call 69; refine (H3.out _).mono ?_; rintro e w9 ⟨rfl, hB⟩))
      go_ret
      exact ⟨rfl, Gr.step E.g hB.out⟩
    · obtain rfl : res = false := by rw [HR.out]; simp [c1, c2]
      clear HR
      go_wp2
      go_ret
      exact ⟨by first | rfl | exact congrArg (fun x => Ending.returned (.bool x)) (decide_eq_false (by omega)), by first | exact E.g | exact E.drew.g⟩
  · by_cases c2 : 0 < b
    · obtain rfl : res = true := by rw [HR.out]; simp [c1, c2]
      clear HR
      go_wp2
      go_ret
      exact ⟨by first | rfl | exact congrArg (fun x => Ending.returned (.bool x)) (decide_eq_true (by omega)), by first | exact E.g | exact E.drew.g⟩
    · obtain rfl : res = decide (c < 0) := by rw [HR.out]; simp [c1, c2]
      clear HR
      obtain ⟨⟨a0, a1, a2, a3⟩, ⟨b0, b1⟩, d0, d1⟩ := E.all
      go_wp2_with ((go_at_call 69; refine (H3.out _).mono ?_; rintro e w9 ⟨rfl, hB⟩))
      go_ret
      exact ⟨rfl, Gr.step E.g hB.out⟩
/-- A vector between two places. -/
def okD (p : Sp) : Prop := (-33554432 ≤ p.1 ∧ p.1 ≤ 33554432) ∧ -33554432 ≤ p.2 ∧ p.2 ≤ 33554432
/-- The cross and the inner product of two vectors. -/
def xp (a b : Sp) : Int := a.1 * b.2 - a.2 * b.1
def ip (a b : Sp) : Int := a.1 * b.1 + a.2 * b.2
/-- How many quarters of a turn with the clock lie between two vectors. -/
def cwN (a b : Sp) : Int := if xp a b < 0 then 1 else if 0 < xp a b then 3 else if 0 < ip a b then 0 else 2
theorem xp_words {a b : Sp} (ha : okD a) (hb : okD b) : ∃ m1 m2 m3 m4, IntKind.i64.wrap (a.1 * b.2) = m1 ∧ IntKind.i64.wrap (a.2 * b.1) = m2 ∧ IntKind.i64.wrap (m1 - m2) = xp a b ∧ IntKind.i64.wrap (a.1 * b.1) = m3 ∧ IntKind.i64.wrap (a.2 * b.2) = m4 ∧ IntKind.i64.wrap (m3 + m4) = ip a b := by
  obtain ⟨m1, e1, f1, g1⟩ := pr_words ha.1.1 ha.1.2 hb.2.1 hb.2.2
  obtain ⟨m2, e2, f2, g2⟩ := pr_words ha.2.1 ha.2.2 hb.1.1 hb.1.2
  obtain ⟨m3, e3, f3, g3⟩ := pr_words ha.1.1 ha.1.2 hb.1.1 hb.1.2
  obtain ⟨m4, e4, f4, g4⟩ := pr_words ha.2.1 ha.2.2 hb.2.1 hb.2.2
  refine ⟨m1, m2, m3, m4, f1, f2, ?_, f3, f4, ?_⟩
  · unfold xp; rw [← e1, ← e2]; exact wr_in (by omega) (by omega)
  · unfold ip; rw [← e3, ← e4]; exact wr_in (by omega) (by omega)
set_option maxHeartbeats 2000000 in
theorem clockwise_any {a b : Sp} (ha : okD a) (hb : okD b) (w : World) : Calls Tryd.prog 68 #[sv a, sv b] w fun e w' => e = .returned (.int .i64 (cwN a b)) ∧ Gr w w' := by
  obtain ⟨m1, m2, m3, m4, w1, w2, w3, w4, w5, w6⟩ := xp_words ha hb
  unfold cwN
  generalize xp a b = x at *
  generalize ip a b = y at *
  obtain ⟨a1, a2⟩ := a
  obtain ⟨b1, b2⟩ := b
  dsimp only at w1 w2 w4 w5
  clear ha hb
  by_cases c1 : x < 0
  · rw [if_pos c1]
    go_enter Tryd.func68, Tryd.ntmps68
    go_wp2
    go_ret
    exact ⟨rfl, ((Gr.refl w).alloc _).alloc _⟩
  · rw [if_neg c1]
    by_cases c2 : 0 < x
    · rw [if_pos c2]
      go_enter Tryd.func68, Tryd.ntmps68
      go_wp2
      go_ret
      exact ⟨rfl, ((Gr.refl w).alloc _).alloc _⟩
    · rw [if_neg c2]
      by_cases c3 : 0 < y
      · rw [if_pos c3]
        go_enter Tryd.func68, Tryd.ntmps68
        go_wp2
        go_ret
        exact ⟨rfl, ((Gr.refl w).alloc _).alloc _⟩
      · rw [if_neg c3]
        go_enter Tryd.func68, Tryd.ntmps68
        go_wp2
        go_ret
        exact ⟨rfl, ((Gr.refl w).alloc _).alloc _⟩
/-- The reference's sooner. -/
def srP (a b c : Sp) : Prop := if cwN a b = cwN a c then xp b c < 0 else cwN a b < cwN a c
instance (a b c : Sp) : Decidable (srP a b c) := by unfold srP; exact inferInstance
structure V3 (w W : World) (p s r : Sp) : Prop where
  a : At W w.heap.size [.int .i64 p.1, .int .i64 p.2]
  b : At W (w.heap.size + 1) [.int .i64 s.1, .int .i64 s.2]
  c : At W (w.heap.size + 1 + 1) [.int .i64 r.1, .int .i64 r.2]
  g : Gr w W
theorem V3.new (w : World) (p s r : Sp) : V3 w (((w.alloc (.cells #[.int .i64 p.1, .int .i64 p.2] 52)).alloc (.cells #[.int .i64 s.1, .int .i64 s.2] 52)).alloc (.cells #[.int .i64 r.1, .int .i64 r.2] 52)) p s r where
  a := ((At.new2 w _ _ _).alloc _).alloc _
  b := (At.nx2 _ _ _ _).alloc _
  c := At.at2 (by simp) _ _ _
  g := (((Gr.refl w).alloc _).alloc _).alloc _
theorem V3.below {w W w' : World} {p s r : Sp} (h : V3 w W p s r) (hB : Below W.heap.size W w') : V3 w w' p s r := ⟨At.below hB h.a, At.below hB h.b, At.below hB h.c, Gr.step h.g hB⟩
set_option maxRecDepth 4000 in
set_option maxHeartbeats 4000000 in
theorem rsooner_any {a b c : Sp} (ha : okD a) (hb : okD b) (hc : okD c) (w : World) : Calls Tryd.prog 48 #[sv a, sv b, sv c] w fun e w' => e = .returned (.bool (decide (srP a b c))) ∧ Gr w w' := by
  have H1 := hidb (fun w => clockwise_any ha hb w)
  have H2 := hidb (fun w => clockwise_any ha hc w)
  obtain ⟨m1, m2, m3, m4, w1, w2, w3, w4, w5, w6⟩ := xp_words hb hc
  clear w4 w5 w6
  generalize hq : decide (srP a b c) = res
  have HR : Hid (res = decide (if cwN a b = cwN a c then xp b c < 0 else cwN a b < cwN a c)) := by rw [← hq]; exact decide_eq_decide.2 Iff.rfl
  clear hq ha hb hc
  generalize cwN a b = x at *
  generalize cwN a c = y at *
  generalize xp b c = z at *
  have E := V3.new w a b c
  go_enter Tryd.func48, Tryd.ntmps48
  go_upto_region 1 with fail
  generalize ((w.alloc (.cells #[.int .i64 a.1, .int .i64 a.2] 52)).alloc (.cells #[.int .i64 b.1, .int .i64 b.2] 52)).alloc (.cells #[.int .i64 c.1, .int .i64 c.2] 52) = W1 at *
  obtain ⟨a0, a1⟩ := E.a.c2
  obtain ⟨b0, b1⟩ := E.b.c2
  obtain ⟨c0, c1⟩ := E.c.c2
  go_wp2_with fail
  go_at_call 68
  refine (H1.out _).mono ?_
  rintro e W2 ⟨rfl, hB⟩
  replace E := E.below hB.out
  clear a0 a1 b0 b1 c0 c1 hB
  obtain ⟨a0, a1⟩ := E.a.c2
  obtain ⟨b0, b1⟩ := E.b.c2
  obtain ⟨c0, c1⟩ := E.c.c2
  go_upto_region 2 with fail
  go_wp2_with fail
  go_at_call 68
  refine (H2.out _).mono ?_
  rintro e W3 ⟨rfl, hB⟩
  replace E := E.below hB.out
  clear a0 a1 b0 b1 c0 c1 hB
  obtain ⟨a0, a1⟩ := E.a.c2
  obtain ⟨b0, b1⟩ := E.b.c2
  obtain ⟨c0, c1⟩ := E.c.c2
  have HG := hidb E.g
  clear E
  by_cases k1 : x = y
  · obtain rfl : res = decide (z < 0) := by rw [HR.out]; simp [k1]
    clear HR
    subst k1
    go_wp2
    go_ret
    exact ⟨rfl, HG.out⟩
  · obtain rfl : res = decide (x < y) := by rw [HR.out]; simp [k1]
    clear HR
    go_wp2
    go_ret
    exact ⟨rfl, HG.out⟩
end Go.Proofs.YtnadgoomkaldkaaDoor
