/-
  shape: parts, holds, twin, meet.; shape.meet, tangled.; shape.counted: how often each point comes.
-/
import Derived.Test.YtnadgoomkaldkaaDoorQJ3
import Derived.Maps.OwnSet
import Derived.Maps.OwnOps
import Derived.WideKeyEntry
import Derived.DeepKeys4
import Derived.MapViews
import Derived.OpenShut
import Derived.Lib.SmallJoins
namespace Go.Proofs.YtnadgoomkaldkaaDoor
open Go.RowKit
attribute [local go_sem ↓] Go.wp_at_zero Go.wp_at_succ

/-- A line along a piece parts another one's ends. -/
def ptP (p q : Pc) : Prop := (tn p.1 p.2 q.1 < 0 ∧ 0 < tn p.1 p.2 q.2) ∨ (0 < tn p.1 p.2 q.1 ∧ tn p.1 p.2 q.2 < 0)
instance (p q : Pc) : Decidable (ptP p q) := by unfold ptP; exact inferInstance
def okP (p : Pc) : Prop := okS p.1 ∧ okS p.2
def B4 (p : Pc) : Obj := .cells #[.int .i64 p.1.1, .int .i64 p.1.2, .int .i64 p.2.1, .int .i64 p.2.2] 84
theorem pc_eq (p q : Pc) (w : World) : (binOp .eql 84 (pv p) (pv q)).run Tryd.prog w = .ok (.bool (decide (p = q))) w := by
  obtain ⟨⟨a, b⟩, c, d⟩ := p
  obtain ⟨⟨a', b'⟩, c', d'⟩ := q
  by_cases h1 : a = a'
  · by_cases h2 : b = b'
    · by_cases h3 : c = c'
      · by_cases h4 : d = d' <;> simp [go_sem, h1, h2, h3, h4]
      · simp [go_sem, h1, h2, h3]
    · simp [go_sem, h1, h2]
  · simp [go_sem, h1]
set_option maxRecDepth 4000 in
set_option maxHeartbeats 4000000 in
theorem parts_any {p q : Pc} (hp : okP p) (hq : okP q) (w : World) : Calls Tryd.prog 63 #[pv p, pv q] w fun e w' => e = .returned (.bool (decide (ptP p q))) ∧ Gr w w' := by
  have H1 := hidb (fun w => turn_any hp.1 hp.2 hq.1 w)
  have H2 := hidb (fun w => turn_any hp.1 hp.2 hq.2 w)
  generalize hr : decide (ptP p q) = res
  have ht : (tn p.1 p.2 q.1 < 0 ∧ 0 < tn p.1 p.2 q.2) ∨ (0 < tn p.1 p.2 q.1 ∧ tn p.1 p.2 q.2 < 0) → res = true := fun h => by rw [← hr]; exact decide_eq_true h
  have hf : ¬ ((tn p.1 p.2 q.1 < 0 ∧ 0 < tn p.1 p.2 q.2) ∨ (0 < tn p.1 p.2 q.1 ∧ tn p.1 p.2 q.2 < 0)) → res = false := fun h => by rw [← hr]; exact decide_eq_false h
  clear hr hp hq
  generalize tn p.1 p.2 q.1 = a at *
  generalize tn p.1 p.2 q.2 = b at *
  obtain ⟨⟨p1, p2⟩, p3, p4⟩ := p
  obtain ⟨⟨q1, q2⟩, q3, q4⟩ := q
  have FA := (At.new4 w (.int .i64 p1) (.int .i64 p2) (.int .i64 p3) (.int .i64 p4) 84).alloc (.cells #[.int .i64 q1, .int .i64 q2, .int .i64 q3, .int .i64 q4] 84)
  have FB : At ((w.alloc (.cells #[.int .i64 p1, .int .i64 p2, .int .i64 p3, .int .i64 p4] 84)).alloc (.cells #[.int .i64 q1, .int .i64 q2, .int .i64 q3, .int .i64 q4] 84)) (w.heap.size + 1) [.int .i64 q1, .int .i64 q2, .int .i64 q3, .int .i64 q4] := by
    have := At.new4 (w.alloc (.cells #[.int .i64 p1, .int .i64 p2, .int .i64 p3, .int .i64 p4] 84)) (.int .i64 q1) (.int .i64 q2) (.int .i64 q3) (.int .i64 q4) 84
    simpa using this
  have HC := ((Gr.refl w).alloc (.cells #[.int .i64 p1, .int .i64 p2, .int .i64 p3, .int .i64 p4] 84)).alloc (.cells #[.int .i64 q1, .int .i64 q2, .int .i64 q3, .int .i64 q4] 84)
  go_enter Tryd.func63, Tryd.ntmps63
  go_upto_region 1 with fail
  generalize (w.alloc (.cells #[.int .i64 p1, .int .i64 p2, .int .i64 p3, .int .i64 p4] 84)).alloc (.cells #[.int .i64 q1, .int .i64 q2, .int .i64 q3, .int .i64 q4] 84) = W1 at *
  go_region_held (fun w' => (w'.cell? ⟨w.heap.size, 0, none⟩ = some (.int .i64 p1) ∧ w'.cell? ⟨w.heap.size, 1, none⟩ = some (.int .i64 p2) ∧ w'.cell? ⟨w.heap.size, 2, none⟩ = some (.int .i64 p3) ∧ w'.cell? ⟨w.heap.size, 3, none⟩ = some (.int .i64 p4)) ∧ w'.cell? ⟨w.heap.size + 1, 0, none⟩ = some (.int .i64 q1) ∧ w'.cell? ⟨w.heap.size + 1, 1, none⟩ = some (.int .i64 q2) ∧ w'.cell? ⟨w.heap.size + 1, 2, none⟩ = some (.int .i64 q3) ∧ w'.cell? ⟨w.heap.size + 1, 3, none⟩ = some (.int .i64 q4))
    (first | (with_reducible exact ⟨FA.c4, FB.c4⟩) | exact ⟨FA.drew.c4, FB.drew.c4⟩)
    ((first | (go_at_call 69; (with_reducible first | refine (H1.out _).mono ?_ | refine (H2.out _).mono ?_); rintro e w5 ⟨rfl, hB⟩; replace hB := hB.out; (with_reducible first | replace hB := undr hB | skip); replace FA := At.below hB FA; replace FB := At.below hB FB; replace HC := Gr.step HC hB; clear hB) | fail))
  all_goals
    by_cases c1 : a < 0
    · by_cases c2 : 0 < b
      · obtain rfl := ht (.inl ⟨c1, c2⟩)
        clear ht hf
        go_wp2
        go_ret
        exact ⟨rfl, by first | exact HC | exact HC.drew⟩
      · have c3 : ¬ 0 < a := by omega
        obtain rfl := hf (by omega)
        clear ht hf
        go_wp2
        go_ret
        exact ⟨rfl, by first | exact HC | exact HC.drew⟩
    · by_cases c3 : 0 < a
      · by_cases c4 : b < 0
        · obtain rfl := ht (.inr ⟨c3, c4⟩)
          clear ht hf
          go_wp2
          go_ret
          exact ⟨rfl, by first | exact HC | exact HC.drew⟩
        · obtain rfl := hf (by omega)
          clear ht hf
          go_wp2
          go_ret
          exact ⟨rfl, by first | exact HC | exact HC.drew⟩
      · obtain rfl := hf (by omega)
        clear ht hf
        go_wp2
        go_ret
        exact ⟨rfl, by first | exact HC | exact HC.drew⟩
/-- A point of a piece that is no end of it. -/
def hlP (p : Pc) (s : Sp) : Prop := (¬ s = p.1 ∧ ¬ s = p.2) ∧ hsP p s
instance (p : Pc) (s : Sp) : Decidable (hlP p s) := by unfold hlP; exact inferInstance
set_option maxRecDepth 4000 in
set_option maxHeartbeats 4000000 in
theorem holds_any {p : Pc} {s : Sp} (hp : okP p) (hs : okS s) (w : World) : Calls Tryd.prog 64 #[pv p, sv s] w fun e w' => e = .returned (.bool (decide (hlP p s))) ∧ Gr w w' := by
  have H1 := hidb (fun w => has_any hp.1 hp.2 hs w)
  generalize hr : decide (hlP p s) = res
  have ht : ¬ s = p.1 → ¬ s = p.2 → decide (hsP p s) = res := fun h k => by rw [← hr]; exact decide_eq_decide.2 ⟨fun hx => ⟨⟨h, k⟩, hx⟩, fun hx => hx.2⟩
  have hf : ¬ (¬ s = p.1 ∧ ¬ s = p.2) → res = false := fun h => by rw [← hr]; exact decide_eq_false (fun k => h k.1)
  have q1 := sp_ne s p.1
  have q2 := sp_ne s p.2
  clear hr hp hs
  generalize decide (hsP p s) = bh at *
  have FA := (At.new4 w (.int .i64 p.1.1) (.int .i64 p.1.2) (.int .i64 p.2.1) (.int .i64 p.2.2) 84).alloc (.cells #[.int .i64 s.1, .int .i64 s.2] 52)
  have FB := At.nx2 (W := w) (.cells #[.int .i64 p.1.1, .int .i64 p.1.2, .int .i64 p.2.1, .int .i64 p.2.2] 84) (.int .i64 s.1) (.int .i64 s.2) 52
  have HC := hidb (((Gr.refl w).alloc (.cells #[.int .i64 p.1.1, .int .i64 p.1.2, .int .i64 p.2.1, .int .i64 p.2.2] 84)).alloc (.cells #[.int .i64 s.1, .int .i64 s.2] 52))
  by_cases c1 : s = p.1
  · obtain rfl := hf (fun h => h.1 c1)
    rw [decide_eq_true c1] at q1
    clear ht hf c1 q2
    go_enter Tryd.func64, Tryd.ntmps64
    go_upto_region 1 with fail
    generalize (w.alloc (.cells #[.int .i64 p.1.1, .int .i64 p.1.2, .int .i64 p.2.1, .int .i64 p.2.2] 84)).alloc (.cells #[.int .i64 s.1, .int .i64 s.2] 52) = W1 at *
    obtain ⟨a0, a1, a2, a3⟩ := FA.c4
    obtain ⟨b0, b1⟩ := FB.c2
    go_wp2
    go_ret
    exact ⟨rfl, HC.out⟩
  · rw [decide_eq_false c1] at q1
    by_cases c2 : s = p.2
    · obtain rfl := hf (fun h => h.2 c2)
      rw [decide_eq_true c2] at q2
      clear ht hf c1 c2
      go_enter Tryd.func64, Tryd.ntmps64
      go_upto_region 1 with fail
      generalize (w.alloc (.cells #[.int .i64 p.1.1, .int .i64 p.1.2, .int .i64 p.2.1, .int .i64 p.2.2] 84)).alloc (.cells #[.int .i64 s.1, .int .i64 s.2] 52) = W1 at *
      obtain ⟨a0, a1, a2, a3⟩ := FA.c4
      obtain ⟨b0, b1⟩ := FB.c2
      go_wp2
      go_ret
      exact ⟨rfl, HC.out⟩
    · rw [decide_eq_false c2] at q2
      obtain rfl := ht c1 c2
      clear ht hf c1 c2
      go_enter Tryd.func64, Tryd.ntmps64
      go_upto_region 1 with fail
      generalize (w.alloc (.cells #[.int .i64 p.1.1, .int .i64 p.1.2, .int .i64 p.2.1, .int .i64 p.2.2] 84)).alloc (.cells #[.int .i64 s.1, .int .i64 s.2] 52) = W1 at *
      obtain ⟨a0, a1, a2, a3⟩ := FA.c4
      obtain ⟨b0, b1⟩ := FB.c2
      go_wp2_with fail
      refine (H1.out _).mono ?_
      rintro e w2 ⟨rfl, hB⟩
      go_wp2
      go_ret
      exact ⟨rfl, Gr.step HC.out hB.out⟩
/-- The same piece, or the same one back. -/
def twP (p q : Pc) : Prop := p = q ∨ p = (q.2, q.1)
instance (p q : Pc) : Decidable (twP p q) := by unfold twP; exact inferInstance
set_option maxRecDepth 4000 in
set_option maxHeartbeats 4000000 in
theorem twin_any (p q : Pc) (w : World) : Calls Tryd.prog 65 #[pv p, pv q] w fun e w' => e = .returned (.bool (decide (twP p q))) ∧ Gr w w' := by
  generalize hr : decide (twP p q) = res
  have ht : p = q → res = true := fun h => by rw [← hr]; exact decide_eq_true (.inl h)
  have hf : ¬ p = q → decide (p = (q.2, q.1)) = res := fun h => by rw [← hr]; exact decide_eq_decide.2 ⟨fun hx => .inr hx, fun hx => hx.resolve_left h⟩
  have q1 := pc_eq p q
  have q2 := pc_eq p (q.2, q.1)
  clear hr
  generalize decide (p = (q.2, q.1)) = bt at *
  have FA := (At.new4 w (.int .i64 p.1.1) (.int .i64 p.1.2) (.int .i64 p.2.1) (.int .i64 p.2.2) 84).alloc (.cells #[.int .i64 q.1.1, .int .i64 q.1.2, .int .i64 q.2.1, .int .i64 q.2.2] 84)
  have FB : At ((w.alloc (.cells #[.int .i64 p.1.1, .int .i64 p.1.2, .int .i64 p.2.1, .int .i64 p.2.2] 84)).alloc (.cells #[.int .i64 q.1.1, .int .i64 q.1.2, .int .i64 q.2.1, .int .i64 q.2.2] 84)) (w.heap.size + 1) (pcs q) := by
    have := At.new4 (w.alloc (.cells #[.int .i64 p.1.1, .int .i64 p.1.2, .int .i64 p.2.1, .int .i64 p.2.2] 84)) (.int .i64 q.1.1) (.int .i64 q.1.2) (.int .i64 q.2.1) (.int .i64 q.2.2) 84
    simpa using this
  have HC := hidb (((Gr.refl w).alloc (.cells #[.int .i64 p.1.1, .int .i64 p.1.2, .int .i64 p.2.1, .int .i64 p.2.2] 84)).alloc (.cells #[.int .i64 q.1.1, .int .i64 q.1.2, .int .i64 q.2.1, .int .i64 q.2.2] 84))
  by_cases c : p = q
  · obtain rfl := ht c
    rw [decide_eq_true c] at q1
    clear ht hf c
    go_enter Tryd.func65, Tryd.ntmps65
    go_upto_region 1 with fail
    generalize (w.alloc (.cells #[.int .i64 p.1.1, .int .i64 p.1.2, .int .i64 p.2.1, .int .i64 p.2.2] 84)).alloc (.cells #[.int .i64 q.1.1, .int .i64 q.1.2, .int .i64 q.2.1, .int .i64 q.2.2] 84) = W1 at *
    obtain ⟨a0, a1, a2, a3⟩ := FA.c4
    obtain ⟨b0, b1, b2, b3⟩ := FB.c4
    go_wp2
    go_ret
    exact ⟨rfl, HC.out⟩
  · obtain rfl := hf c
    rw [decide_eq_false c] at q1
    clear ht hf c
    go_enter Tryd.func65, Tryd.ntmps65
    go_upto_region 1 with fail
    generalize (w.alloc (.cells #[.int .i64 p.1.1, .int .i64 p.1.2, .int .i64 p.2.1, .int .i64 p.2.2] 84)).alloc (.cells #[.int .i64 q.1.1, .int .i64 q.1.2, .int .i64 q.2.1, .int .i64 q.2.2] 84) = W1 at *
    obtain ⟨a0, a1, a2, a3⟩ := FA.c4
    obtain ⟨b0, b1, b2, b3⟩ := FB.c4
    go_wp2
    go_ret
    exact ⟨rfl, HC.out⟩
end Go.Proofs.YtnadgoomkaldkaaDoor
namespace Go.Proofs.YtnadgoomkaldkaaDoor
open Go.RowKit
attribute [local go_sem ↓] Go.wp_at_zero Go.wp_at_succ

/-- Two pieces meet. -/
def mtP (p q : Pc) : Prop := nrP p q ∧ ((ptP p q ∧ ptP q p) ∨ hlP p q.1 ∨ hlP p q.2 ∨ hlP q p.1 ∨ hlP q p.2 ∨ twP p q)
instance (p q : Pc) : Decidable (mtP p q) := by unfold mtP; exact inferInstance
set_option maxRecDepth 4000 in
set_option maxHeartbeats 16000000 in
theorem meet_any {p q : Pc} (hp : okP p) (hq : okP q) (w : World) : Calls Tryd.prog 44 #[pv p, pv q] w fun e w' => e = .returned (.bool (decide (mtP p q))) ∧ Gr w w' := by
  have C0 := hidb (fun w => near_any p q w)
  have C1 := hidb (fun w => parts_any hp hq w)
  have C2 := hidb (fun w => parts_any hq hp w)
  have C3 := hidb (fun w => holds_any hp hq.1 w)
  have C4 := hidb (fun w => holds_any hp hq.2 w)
  have C5 := hidb (fun w => holds_any hq hp.1 w)
  have C6 := hidb (fun w => holds_any hq hp.2 w)
  have C7 := hidb (fun w => twin_any p q w)
  generalize hr : decide (mtP p q) = res
  have ht : nrP p q → (ptP p q ∧ ptP q p) ∨ hlP p q.1 ∨ hlP p q.2 ∨ hlP q p.1 ∨ hlP q p.2 → res = true := fun h k => by
    rw [← hr]; refine decide_eq_true ⟨h, ?_⟩
    rcases k with k | k | k | k | k
    · exact .inl k
    · exact .inr (.inl k)
    · exact .inr (.inr (.inl k))
    · exact .inr (.inr (.inr (.inl k)))
    · exact .inr (.inr (.inr (.inr (.inl k))))
  have hf : ¬ nrP p q → res = false := fun h => by rw [← hr]; exact decide_eq_false (fun k => h k.1)
  have hw : nrP p q → ¬ (ptP p q ∧ ptP q p) → ¬ hlP p q.1 → ¬ hlP p q.2 → ¬ hlP q p.1 → ¬ hlP q p.2 → decide (twP p q) = res := fun h0 h1 h2 h3 h4 h5 => by
    rw [← hr]
    refine decide_eq_decide.2 ⟨fun hx => ⟨h0, .inr (.inr (.inr (.inr (.inr hx))))⟩, fun hx => ?_⟩
    rcases hx.2 with k | k | k | k | k | k
    · exact absurd k h1
    · exact absurd k h2
    · exact absurd k h3
    · exact absurd k h4
    · exact absurd k h5
    · exact k
  clear hr hp hq
  generalize decide (twP p q) = bt at *
  have FA := (At.new4 w (.int .i64 p.1.1) (.int .i64 p.1.2) (.int .i64 p.2.1) (.int .i64 p.2.2) 84).alloc (.cells #[.int .i64 q.1.1, .int .i64 q.1.2, .int .i64 q.2.1, .int .i64 q.2.2] 84)
  have FB : At ((w.alloc (.cells #[.int .i64 p.1.1, .int .i64 p.1.2, .int .i64 p.2.1, .int .i64 p.2.2] 84)).alloc (.cells #[.int .i64 q.1.1, .int .i64 q.1.2, .int .i64 q.2.1, .int .i64 q.2.2] 84)) (w.heap.size + 1) (pcs q) := by
    have := At.new4 (w.alloc (.cells #[.int .i64 p.1.1, .int .i64 p.1.2, .int .i64 p.2.1, .int .i64 p.2.2] 84)) (.int .i64 q.1.1) (.int .i64 q.1.2) (.int .i64 q.2.1) (.int .i64 q.2.2) 84
    simpa using this
  have HG := hidb (((Gr.refl w).alloc (.cells #[.int .i64 p.1.1, .int .i64 p.1.2, .int .i64 p.2.1, .int .i64 p.2.2] 84)).alloc (.cells #[.int .i64 q.1.1, .int .i64 q.1.2, .int .i64 q.2.1, .int .i64 q.2.2] 84))
  go_enter Tryd.func44, Tryd.ntmps44
  go_upto_region 1 with fail
  generalize (w.alloc (.cells #[.int .i64 p.1.1, .int .i64 p.1.2, .int .i64 p.2.1, .int .i64 p.2.2] 84)).alloc (.cells #[.int .i64 q.1.1, .int .i64 q.1.2, .int .i64 q.2.1, .int .i64 q.2.2] 84) = W1 at *
  obtain ⟨a0, a1, a2, a3⟩ := FA.c4
  obtain ⟨b0, b1, b2, b3⟩ := FB.c4
  by_cases k0 : nrP p q
  all_goals first | rw [decide_eq_true k0] at C0 | rw [decide_eq_false k0] at C0
  · skip
    go_wp2_with fail
    refine (C0.out _).mono ?_
    rintro e w2 ⟨rfl, hB⟩
    replace FA := At.below hB.out FA
    replace FB := At.below hB.out FB
    replace HG := hidb (Gr.step HG.out hB.out)
    clear a0 a1 a2 a3 b0 b1 b2 b3 hB
    obtain ⟨a0, a1, a2, a3⟩ := FA.c4
    obtain ⟨b0, b1, b2, b3⟩ := FB.c4
    by_cases k1 : ptP p q
    · rw [decide_eq_true k1] at C1
      go_wp2_with fail
      refine (C1.out _).mono ?_
      rintro e w3 ⟨rfl, hB⟩
      replace FA := At.below hB.out FA
      replace FB := At.below hB.out FB
      replace HG := hidb (Gr.step HG.out hB.out)
      clear a0 a1 a2 a3 b0 b1 b2 b3 hB
      obtain ⟨a0, a1, a2, a3⟩ := FA.c4
      obtain ⟨b0, b1, b2, b3⟩ := FB.c4
      by_cases k2 : ptP q p
      · rw [decide_eq_true k2] at C2
        obtain rfl := ht k0 (.inl ⟨k1, k2⟩)
        go_wp2_with fail
        refine (C2.out _).mono ?_
        rintro e w4 ⟨rfl, hB⟩
        replace FA := At.below hB.out FA
        replace FB := At.below hB.out FB
        replace HG := hidb (Gr.step HG.out hB.out)
        clear a0 a1 a2 a3 b0 b1 b2 b3 hB
        obtain ⟨a0, a1, a2, a3⟩ := FA.c4
        obtain ⟨b0, b1, b2, b3⟩ := FB.c4
        go_wp2
        go_ret
        exact ⟨rfl, HG.out⟩
      · rw [decide_eq_false k2] at C2
        go_wp2_with fail
        refine (C2.out _).mono ?_
        rintro e w4 ⟨rfl, hB⟩
        replace FA := At.below hB.out FA
        replace FB := At.below hB.out FB
        replace HG := hidb (Gr.step HG.out hB.out)
        clear a0 a1 a2 a3 b0 b1 b2 b3 hB
        obtain ⟨a0, a1, a2, a3⟩ := FA.c4
        obtain ⟨b0, b1, b2, b3⟩ := FB.c4
        by_cases k3 : hlP p q.1
        · rw [decide_eq_true k3] at C3
          obtain rfl := ht k0 (.inr (.inl k3))
          go_wp2_with fail
          refine (C3.out _).mono ?_
          rintro e w20 ⟨rfl, hB⟩
          replace FA := At.below hB.out FA
          replace FB := At.below hB.out FB
          replace HG := hidb (Gr.step HG.out hB.out)
          clear a0 a1 a2 a3 b0 b1 b2 b3 hB
          obtain ⟨a0, a1, a2, a3⟩ := FA.c4
          obtain ⟨b0, b1, b2, b3⟩ := FB.c4
          go_wp2
          go_ret
          exact ⟨rfl, HG.out⟩
        · rw [decide_eq_false k3] at C3
          go_wp2_with fail
          refine (C3.out _).mono ?_
          rintro e w20 ⟨rfl, hB⟩
          replace FA := At.below hB.out FA
          replace FB := At.below hB.out FB
          replace HG := hidb (Gr.step HG.out hB.out)
          clear a0 a1 a2 a3 b0 b1 b2 b3 hB
          obtain ⟨a0, a1, a2, a3⟩ := FA.c4
          obtain ⟨b0, b1, b2, b3⟩ := FB.c4
          by_cases k4 : hlP p q.2
          · rw [decide_eq_true k4] at C4
            obtain rfl := ht k0 (.inr (.inr (.inl k4)))
            go_wp2_with fail
            refine (C4.out _).mono ?_
            rintro e w21 ⟨rfl, hB⟩
            replace FA := At.below hB.out FA
            replace FB := At.below hB.out FB
            replace HG := hidb (Gr.step HG.out hB.out)
            clear a0 a1 a2 a3 b0 b1 b2 b3 hB
            obtain ⟨a0, a1, a2, a3⟩ := FA.c4
            obtain ⟨b0, b1, b2, b3⟩ := FB.c4
            go_wp2
            go_ret
            exact ⟨rfl, HG.out⟩
          · rw [decide_eq_false k4] at C4
            go_wp2_with fail
            refine (C4.out _).mono ?_
            rintro e w21 ⟨rfl, hB⟩
            replace FA := At.below hB.out FA
            replace FB := At.below hB.out FB
            replace HG := hidb (Gr.step HG.out hB.out)
            clear a0 a1 a2 a3 b0 b1 b2 b3 hB
            obtain ⟨a0, a1, a2, a3⟩ := FA.c4
            obtain ⟨b0, b1, b2, b3⟩ := FB.c4
            by_cases k5 : hlP q p.1
            · rw [decide_eq_true k5] at C5
              obtain rfl := ht k0 (.inr (.inr (.inr (.inl k5))))
              go_wp2_with fail
              refine (C5.out _).mono ?_
              rintro e w22 ⟨rfl, hB⟩
              replace FA := At.below hB.out FA
              replace FB := At.below hB.out FB
              replace HG := hidb (Gr.step HG.out hB.out)
              clear a0 a1 a2 a3 b0 b1 b2 b3 hB
              obtain ⟨a0, a1, a2, a3⟩ := FA.c4
              obtain ⟨b0, b1, b2, b3⟩ := FB.c4
              go_wp2
              go_ret
              exact ⟨rfl, HG.out⟩
            · rw [decide_eq_false k5] at C5
              go_wp2_with fail
              refine (C5.out _).mono ?_
              rintro e w22 ⟨rfl, hB⟩
              replace FA := At.below hB.out FA
              replace FB := At.below hB.out FB
              replace HG := hidb (Gr.step HG.out hB.out)
              clear a0 a1 a2 a3 b0 b1 b2 b3 hB
              obtain ⟨a0, a1, a2, a3⟩ := FA.c4
              obtain ⟨b0, b1, b2, b3⟩ := FB.c4
              by_cases k6 : hlP q p.2
              · rw [decide_eq_true k6] at C6
                obtain rfl := ht k0 (.inr (.inr (.inr (.inr k6))))
                go_wp2_with fail
                refine (C6.out _).mono ?_
                rintro e w23 ⟨rfl, hB⟩
                replace FA := At.below hB.out FA
                replace FB := At.below hB.out FB
                replace HG := hidb (Gr.step HG.out hB.out)
                clear a0 a1 a2 a3 b0 b1 b2 b3 hB
                obtain ⟨a0, a1, a2, a3⟩ := FA.c4
                obtain ⟨b0, b1, b2, b3⟩ := FB.c4
                go_wp2
                go_ret
                exact ⟨rfl, HG.out⟩
              · rw [decide_eq_false k6] at C6
                go_wp2_with fail
                refine (C6.out _).mono ?_
                rintro e w23 ⟨rfl, hB⟩
                replace FA := At.below hB.out FA
                replace FB := At.below hB.out FB
                replace HG := hidb (Gr.step HG.out hB.out)
                clear a0 a1 a2 a3 b0 b1 b2 b3 hB
                obtain ⟨a0, a1, a2, a3⟩ := FA.c4
                obtain ⟨b0, b1, b2, b3⟩ := FB.c4
                obtain rfl := hw k0 (fun h => k2 h.2) k3 k4 k5 k6
                go_wp2_with fail
                refine (C7.out _).mono ?_
                rintro e w30 ⟨rfl, hB⟩
                replace FA := At.below hB.out FA
                replace FB := At.below hB.out FB
                replace HG := hidb (Gr.step HG.out hB.out)
                clear a0 a1 a2 a3 b0 b1 b2 b3 hB
                obtain ⟨a0, a1, a2, a3⟩ := FA.c4
                obtain ⟨b0, b1, b2, b3⟩ := FB.c4
                go_wp2
                go_ret
                exact ⟨rfl, HG.out⟩
    · rw [decide_eq_false k1] at C1
      go_wp2_with fail
      refine (C1.out _).mono ?_
      rintro e w3 ⟨rfl, hB⟩
      replace FA := At.below hB.out FA
      replace FB := At.below hB.out FB
      replace HG := hidb (Gr.step HG.out hB.out)
      clear a0 a1 a2 a3 b0 b1 b2 b3 hB
      obtain ⟨a0, a1, a2, a3⟩ := FA.c4
      obtain ⟨b0, b1, b2, b3⟩ := FB.c4
      by_cases k3 : hlP p q.1
      · rw [decide_eq_true k3] at C3
        obtain rfl := ht k0 (.inr (.inl k3))
        go_wp2_with fail
        refine (C3.out _).mono ?_
        rintro e w20 ⟨rfl, hB⟩
        replace FA := At.below hB.out FA
        replace FB := At.below hB.out FB
        replace HG := hidb (Gr.step HG.out hB.out)
        clear a0 a1 a2 a3 b0 b1 b2 b3 hB
        obtain ⟨a0, a1, a2, a3⟩ := FA.c4
        obtain ⟨b0, b1, b2, b3⟩ := FB.c4
        go_wp2
        go_ret
        exact ⟨rfl, HG.out⟩
      · rw [decide_eq_false k3] at C3
        go_wp2_with fail
        refine (C3.out _).mono ?_
        rintro e w20 ⟨rfl, hB⟩
        replace FA := At.below hB.out FA
        replace FB := At.below hB.out FB
        replace HG := hidb (Gr.step HG.out hB.out)
        clear a0 a1 a2 a3 b0 b1 b2 b3 hB
        obtain ⟨a0, a1, a2, a3⟩ := FA.c4
        obtain ⟨b0, b1, b2, b3⟩ := FB.c4
        by_cases k4 : hlP p q.2
        · rw [decide_eq_true k4] at C4
          obtain rfl := ht k0 (.inr (.inr (.inl k4)))
          go_wp2_with fail
          refine (C4.out _).mono ?_
          rintro e w21 ⟨rfl, hB⟩
          replace FA := At.below hB.out FA
          replace FB := At.below hB.out FB
          replace HG := hidb (Gr.step HG.out hB.out)
          clear a0 a1 a2 a3 b0 b1 b2 b3 hB
          obtain ⟨a0, a1, a2, a3⟩ := FA.c4
          obtain ⟨b0, b1, b2, b3⟩ := FB.c4
          go_wp2
          go_ret
          exact ⟨rfl, HG.out⟩
        · rw [decide_eq_false k4] at C4
          go_wp2_with fail
          refine (C4.out _).mono ?_
          rintro e w21 ⟨rfl, hB⟩
          replace FA := At.below hB.out FA
          replace FB := At.below hB.out FB
          replace HG := hidb (Gr.step HG.out hB.out)
          clear a0 a1 a2 a3 b0 b1 b2 b3 hB
          obtain ⟨a0, a1, a2, a3⟩ := FA.c4
          obtain ⟨b0, b1, b2, b3⟩ := FB.c4
          by_cases k5 : hlP q p.1
          · rw [decide_eq_true k5] at C5
            obtain rfl := ht k0 (.inr (.inr (.inr (.inl k5))))
            go_wp2_with fail
            refine (C5.out _).mono ?_
            rintro e w22 ⟨rfl, hB⟩
            replace FA := At.below hB.out FA
            replace FB := At.below hB.out FB
            replace HG := hidb (Gr.step HG.out hB.out)
            clear a0 a1 a2 a3 b0 b1 b2 b3 hB
            obtain ⟨a0, a1, a2, a3⟩ := FA.c4
            obtain ⟨b0, b1, b2, b3⟩ := FB.c4
            go_wp2
            go_ret
            exact ⟨rfl, HG.out⟩
          · rw [decide_eq_false k5] at C5
            go_wp2_with fail
            refine (C5.out _).mono ?_
            rintro e w22 ⟨rfl, hB⟩
            replace FA := At.below hB.out FA
            replace FB := At.below hB.out FB
            replace HG := hidb (Gr.step HG.out hB.out)
            clear a0 a1 a2 a3 b0 b1 b2 b3 hB
            obtain ⟨a0, a1, a2, a3⟩ := FA.c4
            obtain ⟨b0, b1, b2, b3⟩ := FB.c4
            by_cases k6 : hlP q p.2
            · rw [decide_eq_true k6] at C6
              obtain rfl := ht k0 (.inr (.inr (.inr (.inr k6))))
              go_wp2_with fail
              refine (C6.out _).mono ?_
              rintro e w23 ⟨rfl, hB⟩
              replace FA := At.below hB.out FA
              replace FB := At.below hB.out FB
              replace HG := hidb (Gr.step HG.out hB.out)
              clear a0 a1 a2 a3 b0 b1 b2 b3 hB
              obtain ⟨a0, a1, a2, a3⟩ := FA.c4
              obtain ⟨b0, b1, b2, b3⟩ := FB.c4
              go_wp2
              go_ret
              exact ⟨rfl, HG.out⟩
            · rw [decide_eq_false k6] at C6
              go_wp2_with fail
              refine (C6.out _).mono ?_
              rintro e w23 ⟨rfl, hB⟩
              replace FA := At.below hB.out FA
              replace FB := At.below hB.out FB
              replace HG := hidb (Gr.step HG.out hB.out)
              clear a0 a1 a2 a3 b0 b1 b2 b3 hB
              obtain ⟨a0, a1, a2, a3⟩ := FA.c4
              obtain ⟨b0, b1, b2, b3⟩ := FB.c4
              obtain rfl := hw k0 (fun h => k1 h.1) k3 k4 k5 k6
              go_wp2_with fail
              refine (C7.out _).mono ?_
              rintro e w30 ⟨rfl, hB⟩
              replace FA := At.below hB.out FA
              replace FB := At.below hB.out FB
              replace HG := hidb (Gr.step HG.out hB.out)
              clear a0 a1 a2 a3 b0 b1 b2 b3 hB
              obtain ⟨a0, a1, a2, a3⟩ := FA.c4
              obtain ⟨b0, b1, b2, b3⟩ := FB.c4
              go_wp2
              go_ret
              exact ⟨rfl, HG.out⟩
  · obtain rfl := hf k0
    go_wp2_with fail
    refine (C0.out _).mono ?_
    rintro e w2 ⟨rfl, hB⟩
    replace FA := At.below hB.out FA
    replace FB := At.below hB.out FB
    replace HG := hidb (Gr.step HG.out hB.out)
    clear a0 a1 a2 a3 b0 b1 b2 b3 hB
    obtain ⟨a0, a1, a2, a3⟩ := FA.c4
    obtain ⟨b0, b1, b2, b3⟩ := FB.c4
    go_wp2
    go_ret
    exact ⟨rfl, HG.out⟩
theorem pslice (b n cap i : Nat) (h : i ≤ cap) (w : World) : (Instr.slice 56 (.slice (some ⟨b, 0, none⟩) n cap) none (some (.int .i64 (i : Int))) none).run Tryd.prog w = .ok (.slice (some ⟨b, 0, none⟩) i cap) w := by
  have hu : Tryd.prog.underlying 56 = some (.slice (Tryd.prog.elem 56)) := by kernel_rfl
  have hs : (sizeOf (Tryd.prog.elem 56)).run Tryd.prog w = .ok 4 w := by kernel_rfl
  rw [run_slice_h w 56 _ _ _ hu .i64 _ (by omega) (by omega), hs]
  simp [Result.andThen, sliced, Addr.add]
/-- Two of the pieces meet. -/
def tgP (L : List Pc) : Prop := ∃ i, i < L.length ∧ ∃ k, k < i ∧ mtP (px L i) (px L k)
instance (L : List Pc) : Decidable (tgP L) := by unfold tgP; exact inferInstance
set_option maxRecDepth 4000 in
set_option maxHeartbeats 8000000 in
theorem tangled_any {ad : Option Addr} {b cap : Nat} {L : List Pc} (ll : L.length ≤ 5000) (hok : ∀ i, i < L.length → okP (px L i)) (w : World) (h : PSl w ad b cap L) : Calls Tryd.prog 27 #[.slice ad L.length cap] w fun e w' => e = .returned (.bool (decide (tgP L))) ∧ Gr w w' := by
  generalize hr : decide (tgP L) = res
  have HT : Hid (∀ i, i < L.length → ∀ k, k < i → mtP (px L i) (px L k) → res = true) := fun i hi k hk hm => by rw [← hr]; exact decide_eq_true ⟨i, hi, k, hk, hm⟩
  have HF : Hid ((∀ i, i < L.length → ∀ k, k < i → ¬ mtP (px L i) (px L k)) → res = false) := fun hh => by rw [← hr]; exact decide_eq_false (fun ⟨i, hi, k, hk, hm⟩ => hh i hi k hk hm)
  have HR := hidb h
  have HOK := hidb hok
  clear hr hok
  obtain ⟨n, hn⟩ : ∃ n, n = L.length := ⟨_, rfl⟩
  have HX := hidb (fun k (hk : k < n) => h.ix (k := k) (by rw [← hn]; exact hk))
  have HA := hidb (fun k (hk : k < n) => h.ad k (by rw [← hn]; exact hk))
  have HNn := hidb hn
  rw [← hn] at HX HA HT HF HOK ll ⊢
  have HL := hidb ll
  clear hn h
  go_enter Tryd.func27, Tryd.ntmps27
  go_wp2
  go_loopw [9] (fun t wr => ∃ (i : Nat), i ≤ n ∧ t = .int .i64 (i : Int) ∧ Hid (∀ j, j < i → ∀ k, k < j → ¬ mtP (px L j) (px L k)) ∧ Hid (Gr w wr)) (fun t _ => n - (intOf t).toNat)
  case atStart => exact ⟨0, Nat.zero_le _, rfl, (by intro j hj; omega), Gr.refl _⟩
  case round =>
    obtain ⟨i, hi, rfl, HI, HG⟩ := hrel
    by_cases h1 : ¬ i < n
    · have h1' : ¬ (i : Int) < (n : Int) := by omega
      obtain rfl : i = n := by omega
      obtain rfl := HF.out HI.out
      clear h1
      go_wp2
      go_ret
      exact ⟨rfl, HG.out⟩
    · have h1' : (i : Int) < (n : Int) := by omega
      have hin : i < n := by omega
      have HIN := hidb hin
      have ix := HX.out i hin
      obtain ⟨had, hcap⟩ := HA.out i hin
      obtain ⟨⟨c0, c1, c2, c3⟩, cb⟩ := (HR.out.gr HG.out).row i (by rw [← HNn.out]; exact hin)
      have hsl := pslice b n cap i (by rw [HNn.out] at hin; omega)
      have e1 : IntKind.i64.wrap ((i : Int) + 1) = ((i + 1 : Nat) : Int) := by rw [show (i : Int) + 1 = ((i + 1 : Nat) : Int) by omega]; exact wr_in (by omega) (by omega)
      have HE1 := hidb e1
      have hpi := HOK.out i hin
      have HPI := hidb hpi
      have HTi := hidb (HT.out i hin)
      have HPe := hidb (fun (k : Nat) => (HOK.out k))
      subst had
      have HcI := hidb hcap
      generalize hpp : px L i = p at *
      have HPP := hidb hpp
      have FP := At.new4 wr (.int .i64 p.1.1) (.int .i64 p.1.2) (.int .i64 p.2.1) (.int .i64 p.2.2) 84
      have HG1 := hidb (HG.out.alloc (.cells #[.int .i64 p.1.1, .int .i64 p.1.2, .int .i64 p.2.1, .int .i64 p.2.2] 84))
      obtain ⟨B, hB⟩ : ∃ B, B = wr.heap.size := ⟨_, rfl⟩
      clear h1 e1 hpi hpp hcap cb
      go_upto_region 4 with fail
      rw [← hB] at FP ⊢
      generalize wr.alloc (.cells #[.int .i64 p.1.1, .int .i64 p.1.2, .int .i64 p.2.1, .int .i64 p.2.2] 84) = W1 at *
      have HFP := hidb FP
      clear hB HG c0 c1 c2 c3 FP
      go_wp2
      clear hsl
      go_loopw [18] (fun t wx => ∃ (k : Nat), k ≤ i ∧ t = .int .i64 (k : Int) ∧ Hid (∀ j, j < k → ¬ mtP p (px L j)) ∧ Hid (Gr W1 wx)) (fun t _ => i - (intOf t).toNat)
      case atStart => exact ⟨0, Nat.zero_le _, rfl, (by intro j hj; omega), Gr.refl _⟩
      case round =>
        obtain ⟨k, hk, rfl, HK, HG⟩ := hrel
        by_cases h2 : ¬ k < i
        · have h2' : ¬ (k : Int) < (i : Int) := by omega
          obtain rfl : k = i := by omega
          have HI2 : Hid (∀ j, j < k + 1 → ∀ m, m < j → ¬ mtP (px L j) (px L m)) := fun j hj => by
            rcases Nat.lt_succ_iff_lt_or_eq.1 hj with c | c
            · exact HI.out j c
            · subst c; rw [HPP.out]; exact HK.out
          have e1 := HE1.out
          clear h2
          go_wp2
          go_roundw
          case rel => exact ⟨k + 1, HIN.out, by go_num, HI2, Gr.step HG1.out HG.out.out⟩
          case measure => have := HIN.out; simp [intOf]; omega
        · have h2' : (k : Int) < (i : Int) := by omega
          have hki : k < i := by omega
          have HKI := hidb hki
          have ix2 := pindex b i cap k hki
          obtain ⟨⟨c0, c1, c2, c3⟩, cb⟩ := (HR.out.gr (Gr.step HG1.out HG.out.out)).row k (by rw [← HNn.out]; have := HIN.out; omega)
          have e2 : IntKind.i64.wrap ((k : Int) + 1) = ((k + 1 : Nat) : Int) := by rw [show (k : Int) + 1 = ((k + 1 : Nat) : Int) by omega]; exact wr_in (by omega) (by have := HIN.out; have := HL.out; omega)
          have HM := hidb (fun w => meet_any HPI.out (HPe.out k (by have := HIN.out; omega)) w)
          have HTk := hidb (HTi.out k hki)
          have HK2 : Hid (¬ mtP p (px L k) → ∀ j, j < k + 1 → ¬ mtP p (px L j)) := fun hh j hj => by
            rcases Nat.lt_succ_iff_lt_or_eq.1 hj with c | c
            · exact HK.out j c
            · subst c; exact hh
          have HE2 := hidb e2
          generalize px L k = q at *
          have FP := (At.below HG.out.out HFP.out).alloc (.cells #[.int .i64 q.1.1, .int .i64 q.1.2, .int .i64 q.2.1, .int .i64 q.2.2] 84)
          have FQ := At.new4 wr (.int .i64 q.1.1) (.int .i64 q.1.2) (.int .i64 q.2.1) (.int .i64 q.2.2) 84
          have HG2 := hidb (HG.out.alloc (.cells #[.int .i64 q.1.1, .int .i64 q.1.2, .int .i64 q.2.1, .int .i64 q.2.2] 84))
          clear h2 hki e2 cb
          go_upto_region 7 with fail
          clear c0 c1 c2 c3 ix2
          generalize wr.alloc (.cells #[.int .i64 q.1.1, .int .i64 q.1.2, .int .i64 q.2.1, .int .i64 q.2.2] 84) = W2 at *
          obtain ⟨a0, a1, a2, a3⟩ := FP.c4
          obtain ⟨b0, b1, b2, b3⟩ := FQ.c4
          go_wp2_with fail
          refine (HM.out _).mono ?_
          rintro e w5 ⟨rfl, hB⟩
          replace HG2 := hidb (Gr.step HG2.out hB.out)
          clear a0 a1 a2 a3 b0 b1 b2 b3 hB FP FQ
          by_cases d : mtP p q
          · rw [decide_eq_true d]
            obtain rfl := HTk.out d
            clear d
            go_wp2
            go_ret
            exact ⟨rfl, Gr.step HG1.out HG2.out⟩
          · rw [decide_eq_false d]
            have HK3 := hidb (HK2.out d)
            have e2 := HE2.out
            clear d
            go_wp2
            go_roundw
            case rel => exact ⟨k + 1, HKI.out, by go_num, HK3, HG2⟩
            case measure => have := HKI.out; simp [intOf]; omega
end Go.Proofs.YtnadgoomkaldkaaDoor
namespace Go.Proofs.YtnadgoomkaldkaaDoor
open Go.RowKit Go.Maps Go.ChangeShapes Go.WideShapes Go.ChangeAt Go.Joins
attribute [local go_sem ↓] Go.wp_at_zero Go.wp_at_succ

theorem spotLaw : WideMaps.KeyLaw Tryd.prog 52 := deep_law_laid (by kernel_rfl) (m := 8) (by decide) (of_decide_eq_true (by kernel_rfl)) (by kernel_rfl) (by kernel_rfl)
theorem spotKeyed : Keyed Tryd.prog 52 := Keyed.of_law spotLaw
theorem cellsSpK : Tryd.prog.cellsOf 52 = 2 := by kernel_rfl
theorem ok_wf {x : Int} (h : okC x) : (Lit.int .i64 x).wf = true := by
  have e1 : IntKind.i64.min = -9223372036854775808 := by decide +kernel
  have e2 : IntKind.i64.max = 9223372036854775807 := by decide +kernel
  unfold okC at h
  simp only [Lit.wf, Bool.and_eq_true, decide_eq_true_eq]
  rw [e1, e2]
  omega
/-- A point as a key. -/
noncomputable def kL (p : Sp) : Lit := (keyOf Tryd.prog 52 (sv p)).getD (.bool false)
theorem spot_key {p : Sp} (h : okS p) : keyOf Tryd.prog 52 (sv p) = some (kL p) := by
  have ht : DataW.Trod (H := Unit) (fun _ => ()) Tryd.prog default 0 (fun _ => true) true 52 (.agg #[.int .i64 p.1, .int .i64 p.2]) (.agg [.lit (.int .i64 p.1), .lit (.int .i64 p.2)]) [] :=
    shut_agg2 (y0 := (.lit (.int .i64 p.1), [])) (y1 := (.lit (.int .i64 p.2), [])) Tryd.underlying52 (by kernel_rfl) cellsSpK ⟨1, by simp [DataW.trod, Tryd.underlying3, ok_wf h.1]⟩ ⟨1, by simp [DataW.trod, Tryd.underlying3, ok_wf h.2]⟩
  obtain ⟨hk, _⟩ := keyOf_asKey (by kernel_rfl) (by kernel_rfl) (by simp [Value.formed, Tryd.underlying52, cellsSpK]) ht
  unfold kL
  rw [hk]
  rfl
theorem kL_inj {p q : Sp} (hp : okS p) (hq : okS q) (h : kL p = kL q) : p = q := by
  have h1 := spot_key hp
  have h2 := spot_key hq
  rw [h] at h1
  have e := spotLaw.inj h1 h2
  simp only [Value.agg.injEq, Array.mk.injEq, List.cons.injEq, Value.int.injEq, and_true, true_and] at e
  exact Prod.ext e.1 e.2
set_option maxRecDepth 100000 in
theorem kL_key {p : Sp} (hp : okS p) : WideAt.IsKeyLit (kL p) := by
  have h := spot_key hp
  generalize kL p = k at h
  generalize sv p = v at h
  exact spotKeyed.key h
/-- The points, each once. -/
def ddL (L : List Sp) : List Sp := L.foldl (fun acc p => if p ∈ acc then acc else acc ++ [p]) []
theorem ddL_snoc (L : List Sp) (p : Sp) : ddL (L ++ [p]) = if p ∈ ddL L then ddL L else ddL L ++ [p] := by unfold ddL; rw [List.foldl_append]; rfl
theorem snoc_ind {P : List Sp → Prop} (h0 : P []) (h1 : ∀ L p, P L → P (L ++ [p])) (L : List Sp) : P L := by
  have : ∀ n (L : List Sp), L.length = n → P L := by
    intro n
    induction n with
    | zero => intro L h; obtain rfl := List.length_eq_zero_iff.1 h; exact h0
    | succ n ih =>
      intro L h
      have hne : L ≠ [] := by intro e; rw [e] at h; simp at h
      rw [← List.dropLast_concat_getLast hne]
      exact h1 _ _ (ih _ (by simp; omega))
  exact this _ L rfl
theorem ddL_mem (p : Sp) (L : List Sp) : p ∈ ddL L ↔ p ∈ L := by
  induction L using snoc_ind with
  | h0 => simp [ddL]
  | h1 L q ih =>
    rw [ddL_snoc]
    split
    · rename_i h
      rw [ih, List.mem_append, List.mem_singleton]
      constructor
      · exact fun hx => .inl hx
      · rintro (hx | rfl)
        · exact hx
        · exact ih.1 h
    · rw [List.mem_append, List.mem_append, ih]
/-- What the map holds, when these points have come. -/
structure CD (D : DataW Unit) (L : List Sp) : Prop where
  tidy : Tidy D
  has : ∀ p, okS p → Maps.has D (kL p) = decide (p ∈ L)
  cnt : ∀ p, okS p → D.atKey (kL p) (.lit (.int .i64 0)) = .lit (.int .i64 (L.count p : Int))
  size : Maps.size D = (ddL L).length
theorem CD.nil : CD (.map []) [] := ⟨tidy_empty, fun _p _ => rfl, fun _p _ => rfl, rfl⟩
set_option maxRecDepth 100000 in
theorem CD.step {D : DataW Unit} {L : List Sp} {p : Sp} (h : CD D L) (hp : okS p) : CD (D.put (kL p) (.lit (.int .i64 ((L.count p : Int) + 1)))) (L ++ [p]) := by
  have ht : Tidy (D.put (kL p) (.lit (.int .i64 ((L.count p : Int) + 1)))) := by
    have hk := kL_key hp
    generalize kL p = k at hk ⊢
    exact h.tidy.put hk _
  refine ⟨ht, fun q hq => ?_, fun q hq => ?_, ?_⟩
  · by_cases e : q = p
    · subst e
      rw [has_put_same h.tidy.isMap (kL_key hq)]
      simp
    · rw [has_put_other (fun hh => e (kL_inj hq hp hh)), h.has q hq]
      simp [e]
  · by_cases e : q = p
    · subst e
      rw [atKey_put_same h.tidy.isMap (kL_key hq)]
      simp
    · rw [atKey_put_other (fun hh => e (kL_inj hq hp hh)), h.cnt q hq]
      have : (L ++ [p]).count q = L.count q := by
        rw [List.count_append]
        have : [p].count q = 0 := List.count_eq_zero.2 (by simpa using e)
        omega
      rw [this]
  · rw [size_put h.tidy, h.has p hp, h.size, ddL_snoc]
    by_cases c : p ∈ L
    · rw [if_pos (decide_eq_true c), if_pos ((ddL_mem p L).2 c)]
    · rw [if_neg (by simp [c]), if_neg (fun hh => c ((ddL_mem p L).1 hh))]
      simp
theorem undMp : Tryd.prog.underlying 85 = some (.map 52 3) := by kernel_rfl
theorem zeroI (w : World) : (zeroValue 3).run Tryd.prog w = .ok (.int .i64 0) w := by kernel_rfl
abbrev OM (w : World) (M n : Nat) (D : DataW Unit) : Prop := w.ownsMap Tryd.prog 52 (plainElem Tryd.prog 3) M n D
/-- m[p]++. -/
theorem cnt_step {w : World} {M n : Nat} {D : DataW Unit} {L : List Sp} {p : Sp} (hown : OM w M n D) (hcd : CD D L) (hp : okS p) (hn : n < maxLen) (hc : (L.count p : Int) + 1 ≤ 9223372036854775807) :
    ∃ (c st : Int) (v0 : Value) (w1 w2 : World), c = (L.count p : Int) ∧ (Instr.lookup 85 (.map (some M)) (sv p) false).run Tryd.prog w = .ok (.int .i64 c) w ∧ (Instr.mapEntry 85 (.map (some M)) (sv p)).run Tryd.prog w = .ok (.tuple #[v0, .int .i64 st]) w1 ∧ (Instr.lookup 85 (.map (some M)) (sv p) false).run Tryd.prog w1 = .ok (.int .i64 c) w1 ∧
      (Instr.entryStore 85 (.map (some M)) (.int .i64 st) (.int .i64 (c + 1))).run Tryd.prog w1 = .ok () w2 ∧ OM w2 M (n + 1) (D.put (kL p) (.lit (.int .i64 (c + 1)))) ∧ w.grownBy w1 (some M) ∧ w.grownBy w2 (some M) := by
  have hkey := spot_key hp
  obtain ⟨c, hrun, hat, hwc⟩ := hown.lookup_int spotKeyed undMp (by kernel_rfl) (zeroI w) hkey
  rw [hcd.cnt p hp] at hat
  have hcc : c = (L.count p : Int) := by simpa using hat.symm
  have hwf : (Lit.int .i64 (c + 1)).wf = true := by
    have e1 : IntKind.i64.min = -9223372036854775808 := by decide +kernel
    have e2 : IntKind.i64.max = 9223372036854775807 := by decide +kernel
    simp only [Lit.wf, Bool.and_eq_true, decide_eq_true_eq]
    rw [e1, e2, hcc]
    omega
  obtain ⟨w', hup, hown', hgrow⟩ := hown.update spotKeyed undMp hn hkey (plainElem_int (H := Unit) (e := 3) (by kernel_rfl) hwf)
  obtain ⟨es, clock, hb, F, hs, hD⟩ := id hown
  obtain ⟨v0, st, es1, clock1, hE, hcase, hS⟩ := WideElems.entry_then_store spotLaw undMp zeroI hb F hkey
  have hb1 : (ChangeMaps.setBlock w M (.map es1 clock1)).heap[M]? = some (.map es1 clock1) := ChangeMaps.heap_setBlock_same hb _
  obtain ⟨es', clock', hSt, hUp⟩ := hS _ (.int .i64 (c + 1)) hb1
  rw [hup] at hUp
  have hw' : w' = ChangeMaps.setBlock w M (.map es' clock') := by simpa using hUp
  have hg : ∀ o, w.grownBy (ChangeMaps.setBlock w M o) (some M) := fun o => ⟨rfl, rfl, rfl, by simp [ChangeMaps.setBlock], fun i _ hi => ChangeMaps.heap_setBlock_other hb _ (fun e => hi (by rw [e]))⟩
  have hss : ∀ o o', ChangeMaps.setBlock (ChangeMaps.setBlock w M o) M o' = ChangeMaps.setBlock w M o' := fun o o' => by simp [ChangeMaps.setBlock]
  rw [hss, ← hw'] at hSt
  have hl1 : (Instr.lookup 85 (.map (some M)) (sv p) false).run Tryd.prog (ChangeMaps.setBlock w M (.map es1 clock1)) = .ok (.int .i64 c) (ChangeMaps.setBlock w M (.map es1 clock1)) := by
    rcases spotLaw.find w hkey es.toList F.keys with ⟨h1, h2⟩ | ⟨j, e0, h1, h2, h3⟩
    · have hE2 : (Instr.mapEntry 85 (.map (some M)) (sv p)).run Tryd.prog w = .ok (.tuple #[.int .i64 0, goInt clock]) (ChangeMaps.setBlock w M (.map (es.push ⟨sv p, .int .i64 0, clock⟩) (clock + 1))) := by
        simp [Instr.mapEntry, run_underlying undMp, MapKept.run_getObj_map hb, spotLaw.check w false hkey, h1, MapKept.run_setObj_map _ hb, Result.andThen, ChangeMaps.setBlock]
      have h0 : c = 0 := by
        have : (Instr.lookup 85 (.map (some M)) (sv p) false).run Tryd.prog w = .ok (.int .i64 0) w := by
          simp [Instr.lookup, run_underlying undMp, MapKept.run_getObj_map hb, spotLaw.check w _ hkey, h1, Result.andThen]
        rw [hrun] at this
        simpa using this
      rw [hE] at hE2
      have hw : ChangeMaps.setBlock w M (.map es1 clock1) = ChangeMaps.setBlock w M (.map (es.push ⟨sv p, .int .i64 0, clock⟩) (clock + 1)) := by
        simp only [Result.ok.injEq] at hE2
        exact hE2.2
      rw [hw]
      have hb2 : (ChangeMaps.setBlock w M (.map (es.push ⟨sv p, .int .i64 0, clock⟩) (clock + 1))).heap[M]? = some (.map (es.push ⟨sv p, .int .i64 0, clock⟩) (clock + 1)) := ChangeMaps.heap_setBlock_same hb _
      rcases spotLaw.find (ChangeMaps.setBlock w M (.map (es.push ⟨sv p, .int .i64 0, clock⟩) (clock + 1))) hkey (es.push ⟨sv p, .int .i64 0, clock⟩).toList (by
          intro e he
          rw [Array.toList_push, List.mem_append, List.mem_singleton] at he
          rcases he with he | rfl
          · exact F.keys e he
          · exact ⟨_, hkey⟩) with ⟨_, g2⟩ | ⟨j, e1, g1, g2, g3⟩
      · exact absurd rfl (g2 ⟨sv p, .int .i64 0, clock⟩ (by rw [Array.toList_push]; simp))
      · have he := List.mem_of_getElem? g2
        rw [Array.toList_push, List.mem_append, List.mem_singleton] at he
        rcases he with he | rfl
        · exact absurd g3 (h2 e1 he)
        · rw [h0]
          rw [Array.toList_push] at g1
          simp only [Instr.lookup]
          simp [run_underlying undMp, MapKept.run_getObj_map hb2, spotLaw.check _ _ hkey, g1, Result.andThen]
    · have hj : es[j]? = some e0 := by simpa using h2
      have hsame : es.modify j (fun e => { e with key := sv p }) = es := by
        apply Array.ext'
        rw [Array.toList_modify, ChangeMaps.modify_eq_set _ _ _ _ h2]
        have : ({ e0 with key := sv p } : MapEntry) = e0 := by rw [← h3]
        rw [this]
        exact WideElems.set_self _ _ _ h2
      have hE2 : (Instr.mapEntry 85 (.map (some M)) (sv p)).run Tryd.prog w = .ok (.tuple #[e0.val, goInt e0.born]) (ChangeMaps.setBlock w M (.map es clock)) := by
        simp [Instr.mapEntry, run_underlying undMp, MapKept.run_getObj_map hb, spotLaw.check w false hkey, h1, hj, h3, spotLaw.stays w hkey, hsame, MapKept.run_setObj_map _ hb, Result.andThen, ChangeMaps.setBlock]
      rw [hE] at hE2
      have hw : ChangeMaps.setBlock w M (.map es1 clock1) = ChangeMaps.setBlock w M (.map es clock) := by
        simp only [Result.ok.injEq] at hE2
        exact hE2.2
      have hid : ChangeMaps.setBlock w M (.map es clock) = w := by
        unfold ChangeMaps.setBlock
        have : w.heap.setIfInBounds M (.map es clock) = w.heap := by
          apply Array.ext'
          rw [Array.toList_setIfInBounds]
          exact WideElems.set_self _ _ _ (by simpa using hb)
        rw [this]
      rw [hw, hid]
      exact hrun
  exact ⟨c, st, v0, _, w', hcc, hrun, hE, hl1, hSt, hown', hg _, hgrow⟩
/-- A slice of slices of points that is read. -/
def lx (Ls : List (List Sp)) (i : Nat) : List Sp := Ls.getD i []
structure LLs (w : World) (ad : Option Addr) (b o cap : Nat) (Ls : List (List Sp)) : Prop where
  row : ∀ i, i < Ls.length → (∃ ad' b' o' cap', w.cell? ⟨b, o + i, none⟩ = some (.slice ad' (lx Ls i).length cap') ∧ SSl w ad' b' o' cap' (lx Ls i)) ∧ b < w.heap.size
  ix : ∀ k : Nat, k < Ls.length → ∀ w, (Instr.indexAt 30 (.slice ad Ls.length cap) (.int .i64 k)).run Tryd.prog w = .ok (.pointer (some ⟨b, o + k, none⟩)) w
theorem LLs.below {W w' : World} {ad : Option Addr} {b o cap : Nat} {Ls : List (List Sp)} (h : LLs W ad b o cap Ls) (hB : Below W.heap.size W w') : LLs w' ad b o cap Ls :=
  ⟨fun i hi => by
    obtain ⟨⟨ad', b', o', cap', h1, h2⟩, h3⟩ := h.row i hi
    exact ⟨⟨ad', b', o', cap', (hB.cell (p := ⟨b, o + i, none⟩) h3).trans h1, h2.below hB⟩, Nat.lt_of_lt_of_le h3 hB.size⟩, h.ix⟩
theorem lindex (b o n cap k : Nat) (hk : k < n) (w : World) : (Instr.indexAt 30 (.slice (some ⟨b, o, none⟩) n cap) (.int .i64 k)).run Tryd.prog w = .ok (.pointer (some ⟨b, o + k, none⟩)) w := by
  have hu : Tryd.prog.underlying 30 = some (.slice (Tryd.prog.elem 30)) := by kernel_rfl
  refine (run_indexAt_slice (P := Tryd.prog) (w := w) 30 ⟨b, o, none⟩ n cap .i64 (k : Int) hu).trans ?_
  rw [if_pos ⟨by omega, by omega⟩]
  have hs : (sizeOf (Tryd.prog.elem 30)).run Tryd.prog w = .ok 1 w := by kernel_rfl
  rw [hs]
  simp [Addr.add]
  try (intro h; omega)
theorem LLs.one {W : World} {B : Nat} {ad : Option Addr} {b o cap : Nat} {l : List Sp} (h : At W B [.slice ad l.length cap]) (hs : SSl W ad b o cap l) : LLs W (some ⟨B, 0, none⟩) B 0 1 [l] :=
  ⟨fun i hi => by
    obtain rfl : i = 0 := by simp at hi; exact hi
    exact ⟨⟨ad, b, o, cap, h.c1, hs⟩, h.2⟩, fun k hk w => lindex B 0 _ 1 k hk w⟩
end Go.Proofs.YtnadgoomkaldkaaDoor
