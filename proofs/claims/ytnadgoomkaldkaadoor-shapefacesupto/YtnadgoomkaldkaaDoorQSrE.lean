/-
  shape: parts, holds, twin, meet.
-/
import Derived.Test.YtnadgoomkaldkaaDoorQShE
namespace Go.Proofs.YtnadgoomkaldkaaDoor
open Go.RowKit
attribute [local go_sem ↓] Go.wp_at_zero Go.wp_at_succ

/-- A line along a piece parts another one's ends. -/
def ptP (p q : Pc) : Prop := (tn p.1 p.2 q.1 < 0 ∧ 0 < tn p.1 p.2 q.2) ∨ (0 < tn p.1 p.2 q.1 ∧ tn p.1 p.2 q.2 < 0)
instance (p q : Pc) : Decidable (ptP p q) := by unfold ptP; exact inferInstance
def okP (p : Pc) : Prop := okS p.1 ∧ okS p.2
def B4 (p : Pc) : Obj := .cells #[.int .i64 p.1.1, .int .i64 p.1.2, .int .i64 p.2.1, .int .i64 p.2.2] 84
theorem pc_eq (p q : Pc) (w : World) : (binOp .eql 84 (pv p) (pv q)).run Tryd.prog w = .ok (.bool (decide (p = q))) w := by
  obtain ⟨⟨a, b⟩, c, d⟩ := p
  obtain ⟨⟨a', b'⟩, c', d'⟩ := q
  by_cases h1 : a = a'
  · by_cases h2 : b = b'
    · by_cases h3 : c = c'
      · by_cases h4 : d = d' <;> simp [go_sem, h1, h2, h3, h4]
      · simp [go_sem, h1, h2, h3]
    · simp [go_sem, h1, h2]
  · simp [go_sem, h1]
set_option maxRecDepth 4000 in
set_option maxHeartbeats 4000000 in
theorem parts_any {p q : Pc} (hp : okP p) (hq : okP q) (w : World) : Calls Tryd.prog 63 #[pv p, pv q] w fun e w' => e = .returned (.bool (decide (ptP p q))) ∧ Gr w w' := by
  have H1 := hidb (fun w => turn_any hp.1 hp.2 hq.1 w)
  have H2 := hidb (fun w => turn_any hp.1 hp.2 hq.2 w)
  generalize hr : decide (ptP p q) = res
  have ht : (tn p.1 p.2 q.1 < 0 ∧ 0 < tn p.1 p.2 q.2) ∨ (0 < tn p.1 p.2 q.1 ∧ tn p.1 p.2 q.2 < 0) → res = true := fun h => by rw [← hr]; exact decide_eq_true h
  have hf : ¬ ((tn p.1 p.2 q.1 < 0 ∧ 0 < tn p.1 p.2 q.2) ∨ (0 < tn p.1 p.2 q.1 ∧ tn p.1 p.2 q.2 < 0)) → res = false := fun h => by rw [← hr]; exact decide_eq_false h
  clear hr hp hq
  generalize tn p.1 p.2 q.1 = a at *
  generalize tn p.1 p.2 q.2 = b at *
  obtain ⟨⟨p1, p2⟩, p3, p4⟩ := p
  obtain ⟨⟨q1, q2⟩, q3, q4⟩ := q
  have FA := (At.new4 w (.int .i64 p1) (.int .i64 p2) (.int .i64 p3) (.int .i64 p4) 84).alloc (.cells #[.int .i64 q1, .int .i64 q2, .int .i64 q3, .int .i64 q4] 84)
  have FB : At ((w.alloc (.cells #[.int .i64 p1, .int .i64 p2, .int .i64 p3, .int .i64 p4] 84)).alloc (.cells #[.int .i64 q1, .int .i64 q2, .int .i64 q3, .int .i64 q4] 84)) (w.heap.size + 1) [.int .i64 q1, .int .i64 q2, .int .i64 q3, .int .i64 q4] := by
    have := At.new4 (w.alloc (.cells #[.int .i64 p1, .int .i64 p2, .int .i64 p3, .int .i64 p4] 84)) (.int .i64 q1) (.int .i64 q2) (.int .i64 q3) (.int .i64 q4) 84
    simpa using this
  have HC := ((Gr.refl w).alloc (.cells #[.int .i64 p1, .int .i64 p2, .int .i64 p3, .int .i64 p4] 84)).alloc (.cells #[.int .i64 q1, .int .i64 q2, .int .i64 q3, .int .i64 q4] 84)
  go_enter Tryd.func63, Tryd.ntmps63
  go_upto_region 1 with fail
  generalize (w.alloc (.cells #[.int .i64 p1, .int .i64 p2, .int .i64 p3, .int .i64 p4] 84)).alloc (.cells #[.int .i64 q1, .int .i64 q2, .int .i64 q3, .int .i64 q4] 84) = W1 at *
  go_region_held (fun w' => (w'.cell? ⟨w.heap.size, 0, none⟩ = some (.int .i64 p1) ∧ w'.cell? ⟨w.heap.size, 1, none⟩ = some (.int .i64 p2) ∧ w'.cell? ⟨w.heap.size, 2, none⟩ = some (.int .i64 p3) ∧ w'.cell? ⟨w.heap.size, 3, none⟩ = some (.int .i64 p4)) ∧ w'.cell? ⟨w.heap.size + 1, 0, none⟩ = some (.int .i64 q1) ∧ w'.cell? ⟨w.heap.size + 1, 1, none⟩ = some (.int .i64 q2) ∧ w'.cell? ⟨w.heap.size + 1, 2, none⟩ = some (.int .i64 q3) ∧ w'.cell? ⟨w.heap.size + 1, 3, none⟩ = some (.int .i64 q4))
    (first | (with_reducible exact ⟨FA.c4, FB.c4⟩) | exact ⟨FA.drew.c4, FB.drew.c4⟩)
    ((first | (go_at_call 69; (with_reducible first | refine (H1.out _).mono ?_ | refine (H2.out _).mono ?_); rintro e w5 ⟨rfl, hB⟩; replace hB := hB.out; (with_reducible first | replace hB := undr hB | skip); replace FA := At.below hB FA; replace FB := At.below hB FB; replace HC := Gr.step HC hB; clear hB) | fail))
  all_goals
    by_cases c1 : a < 0
    · by_cases c2 : 0 < b
      · obtain rfl := ht (.inl ⟨c1, c2⟩)
        clear ht hf
        go_wp2
        go_ret
        exact ⟨rfl, by first | exact HC | exact HC.drew⟩
      · have c3 : ¬ 0 < a := by omega
        obtain rfl := hf (by omega)
        clear ht hf
        go_wp2
        go_ret
        exact ⟨rfl, by first | exact HC | exact HC.drew⟩
    · by_cases c3 : 0 < a
      · by_cases c4 : b < 0
        · obtain rfl := ht (.inr ⟨c3, c4⟩)
          clear ht hf
          go_wp2
          go_ret
          exact ⟨rfl, by first | exact HC | exact HC.drew⟩
        · obtain rfl := hf (by omega)
          clear ht hf
          go_wp2
          go_ret
          exact ⟨rfl, by first | exact HC | exact HC.drew⟩
      · obtain rfl := hf (by omega)
        clear ht hf
        go_wp2
        go_ret
        exact ⟨rfl, by first | exact HC | exact HC.drew⟩
/-- A point of a piece that is no end of it. -/
def hlP (p : Pc) (s : Sp) : Prop := (¬ s = p.1 ∧ ¬ s = p.2) ∧ hsP p s
instance (p : Pc) (s : Sp) : Decidable (hlP p s) := by unfold hlP; exact inferInstance
set_option maxRecDepth 4000 in
set_option maxHeartbeats 4000000 in
theorem holds_any {p : Pc} {s : Sp} (hp : okP p) (hs : okS s) (w : World) : Calls Tryd.prog 64 #[pv p, sv s] w fun e w' => e = .returned (.bool (decide (hlP p s))) ∧ Gr w w' := by
  have H1 := hidb (fun w => has_any hp.1 hp.2 hs w)
  generalize hr : decide (hlP p s) = res
  have ht : ¬ s = p.1 → ¬ s = p.2 → decide (hsP p s) = res := fun h k => by rw [← hr]; exact decide_eq_decide.2 ⟨fun hx => ⟨⟨h, k⟩, hx⟩, fun hx => hx.2⟩
  have hf : ¬ (¬ s = p.1 ∧ ¬ s = p.2) → res = false := fun h => by rw [← hr]; exact decide_eq_false (fun k => h k.1)
  have q1 := sp_ne s p.1
  have q2 := sp_ne s p.2
  clear hr hp hs
  generalize decide (hsP p s) = bh at *
  have FA := (At.new4 w (.int .i64 p.1.1) (.int .i64 p.1.2) (.int .i64 p.2.1) (.int .i64 p.2.2) 84).alloc (.cells #[.int .i64 s.1, .int .i64 s.2] 52)
  have FB := At.nx2 (W := w) (.cells #[.int .i64 p.1.1, .int .i64 p.1.2, .int .i64 p.2.1, .int .i64 p.2.2] 84) (.int .i64 s.1) (.int .i64 s.2) 52
  have HC := hidb (((Gr.refl w).alloc (.cells #[.int .i64 p.1.1, .int .i64 p.1.2, .int .i64 p.2.1, .int .i64 p.2.2] 84)).alloc (.cells #[.int .i64 s.1, .int .i64 s.2] 52))
  by_cases c1 : s = p.1
  · obtain rfl := hf (fun h => h.1 c1)
    rw [decide_eq_true c1] at q1
    clear ht hf c1 q2
    go_enter Tryd.func64, Tryd.ntmps64
    go_upto_region 1 with fail
    generalize (w.alloc (.cells #[.int .i64 p.1.1, .int .i64 p.1.2, .int .i64 p.2.1, .int .i64 p.2.2] 84)).alloc (.cells #[.int .i64 s.1, .int .i64 s.2] 52) = W1 at *
    obtain ⟨a0, a1, a2, a3⟩ := FA.c4
    obtain ⟨b0, b1⟩ := FB.c2
    go_wp2
    go_ret
    exact ⟨rfl, HC.out⟩
  · rw [decide_eq_false c1] at q1
    by_cases c2 : s = p.2
    · obtain rfl := hf (fun h => h.2 c2)
      rw [decide_eq_true c2] at q2
      clear ht hf c1 c2
      go_enter Tryd.func64, Tryd.ntmps64
      go_upto_region 1 with fail
      generalize (w.alloc (.cells #[.int .i64 p.1.1, .int .i64 p.1.2, .int .i64 p.2.1, .int .i64 p.2.2] 84)).alloc (.cells #[.int .i64 s.1, .int .i64 s.2] 52) = W1 at *
      obtain ⟨a0, a1, a2, a3⟩ := FA.c4
      obtain ⟨b0, b1⟩ := FB.c2
      go_wp2
      go_ret
      exact ⟨rfl, HC.out⟩
    · rw [decide_eq_false c2] at q2
      obtain rfl := ht c1 c2
      clear ht hf c1 c2
      go_enter Tryd.func64, Tryd.ntmps64
      go_upto_region 1 with fail
      generalize (w.alloc (.cells #[.int .i64 p.1.1, .int .i64 p.1.2, .int .i64 p.2.1, .int .i64 p.2.2] 84)).alloc (.cells #[.int .i64 s.1, .int .i64 s.2] 52) = W1 at *
      obtain ⟨a0, a1, a2, a3⟩ := FA.c4
      obtain ⟨b0, b1⟩ := FB.c2
      go_wp2_with fail
      refine (H1.out _).mono ?_
      rintro e w2 ⟨rfl, hB⟩
      go_wp2
      go_ret
      exact ⟨rfl, Gr.step HC.out hB.out⟩
/-- The same piece, or the same one back. -/
def twP (p q : Pc) : Prop := p = q ∨ p = (q.2, q.1)
instance (p q : Pc) : Decidable (twP p q) := by unfold twP; exact inferInstance
set_option maxRecDepth 4000 in
set_option maxHeartbeats 4000000 in
theorem twin_any (p q : Pc) (w : World) : Calls Tryd.prog 65 #[pv p, pv q] w fun e w' => e = .returned (.bool (decide (twP p q))) ∧ Gr w w' := by
  generalize hr : decide (twP p q) = res
  have ht : p = q → res = true := fun h => by rw [← hr]; exact decide_eq_true (.inl h)
  have hf : ¬ p = q → decide (p = (q.2, q.1)) = res := fun h => by rw [← hr]; exact decide_eq_decide.2 ⟨fun hx => .inr hx, fun hx => hx.resolve_left h⟩
  have q1 := pc_eq p q
  have q2 := pc_eq p (q.2, q.1)
  clear hr
  generalize decide (p = (q.2, q.1)) = bt at *
  have FA := (At.new4 w (.int .i64 p.1.1) (.int .i64 p.1.2) (.int .i64 p.2.1) (.int .i64 p.2.2) 84).alloc (.cells #[.int .i64 q.1.1, .int .i64 q.1.2, .int .i64 q.2.1, .int .i64 q.2.2] 84)
  have FB : At ((w.alloc (.cells #[.int .i64 p.1.1, .int .i64 p.1.2, .int .i64 p.2.1, .int .i64 p.2.2] 84)).alloc (.cells #[.int .i64 q.1.1, .int .i64 q.1.2, .int .i64 q.2.1, .int .i64 q.2.2] 84)) (w.heap.size + 1) (pcs q) := by
    have := At.new4 (w.alloc (.cells #[.int .i64 p.1.1, .int .i64 p.1.2, .int .i64 p.2.1, .int .i64 p.2.2] 84)) (.int .i64 q.1.1) (.int .i64 q.1.2) (.int .i64 q.2.1) (.int .i64 q.2.2) 84
    simpa using this
  have HC := hidb (((Gr.refl w).alloc (.cells #[.int .i64 p.1.1, .int .i64 p.1.2, .int .i64 p.2.1, .int .i64 p.2.2] 84)).alloc (.cells #[.int .i64 q.1.1, .int .i64 q.1.2, .int .i64 q.2.1, .int .i64 q.2.2] 84))
  by_cases c : p = q
  · obtain rfl := ht c
    rw [decide_eq_true c] at q1
    clear ht hf c
    go_enter Tryd.func65, Tryd.ntmps65
    go_upto_region 1 with fail
    generalize (w.alloc (.cells #[.int .i64 p.1.1, .int .i64 p.1.2, .int .i64 p.2.1, .int .i64 p.2.2] 84)).alloc (.cells #[.int .i64 q.1.1, .int .i64 q.1.2, .int .i64 q.2.1, .int .i64 q.2.2] 84) = W1 at *
    obtain ⟨a0, a1, a2, a3⟩ := FA.c4
    obtain ⟨b0, b1, b2, b3⟩ := FB.c4
    go_wp2
    go_ret
    exact ⟨rfl, HC.out⟩
  · obtain rfl := hf c
    rw [decide_eq_false c] at q1
    clear ht hf c
    go_enter Tryd.func65, Tryd.ntmps65
    go_upto_region 1 with fail
    generalize (w.alloc (.cells #[.int .i64 p.1.1, .int .i64 p.1.2, .int .i64 p.2.1, .int .i64 p.2.2] 84)).alloc (.cells #[.int .i64 q.1.1, .int .i64 q.1.2, .int .i64 q.2.1, .int .i64 q.2.2] 84) = W1 at *
    obtain ⟨a0, a1, a2, a3⟩ := FA.c4
    obtain ⟨b0, b1, b2, b3⟩ := FB.c4
    go_wp2
    go_ret
    exact ⟨rfl, HC.out⟩
end Go.Proofs.YtnadgoomkaldkaaDoor
