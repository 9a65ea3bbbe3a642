/-
  shape.inside; mercatorref5.inTriangle.; mercatorref5.inTriangle.
-/
import Derived.Test.YtnadgoomkaldkaaDoorQTk
import Derived.Test.YtnadgoomkaldkaaDoorQJ7
import Derived.Lib.MinMax
import Derived.Test.YtnadgoomkaldkaaDoorQSrA
namespace Go.Proofs.YtnadgoomkaldkaaDoor
open Go.RowKit
attribute [local go_sem ↓] Go.wp_at_zero Go.wp_at_succ

@[local go_sem high] theorem run_max3 {P : Program} (w : World) (ts : Array TypeId) (t : TypeId) (k k' k2 : IntKind) (x y z : Int) : (Builtin.max_ ts t #[.int k x, .int k' y, .int k2 z]).run P w = .ok (.int k (max (max x y) z)) w := by
  have e1 : (if y > x then y else x) = max x y := by rw [Int.max_def]; split <;> split <;> omega
  have e2 : (if z > max x y then z else max x y) = max (max x y) z := by rw [Int.max_def (max x y) z]; split <;> split <;> omega
  simp [Builtin.max_, Builtin.max2, e1, e2]
@[local go_sem high] theorem run_min3 {P : Program} (w : World) (ts : Array TypeId) (t : TypeId) (k k' k2 : IntKind) (x y z : Int) : (Builtin.min_ ts t #[.int k x, .int k' y, .int k2 z]).run P w = .ok (.int k (min (min x y) z)) w := by
  have e1 : (if y < x then y else x) = min x y := by rw [Int.min_def]; split <;> split <;> omega
  have e2 : (if z < min x y then z else min x y) = min (min x y) z := by rw [Int.min_def (min x y) z]; split <;> split <;> omega
  simp [Builtin.min_, Builtin.min2, e1, e2]
set_option maxRecDepth 4000 in
set_option maxHeartbeats 16000000 in
theorem inside_any {a b c s : Sp} (ha : okS a) (hb : okS b) (hc : okS c) (hs : okS s) (w : World) : Calls Tryd.prog 79 #[sv a, sv b, sv c, sv s] w fun e w' => e = .returned (.bool (decide (inP a b c s))) ∧ Gr w w' := by
  generalize hr : decide (inP a b c s) = res
  have HU := hidb (fun W => turn_any ha hb hs W)
  have HV := hidb (fun W => turn_any hb hc hs W)
  have HW := hidb (fun W => turn_any hc ha hs W)
  obtain ⟨m1, h1⟩ : ∃ m, min (min (tn a b s) (tn b c s)) (tn c a s) = m := ⟨_, rfl⟩
  obtain ⟨m2, h2⟩ : ∃ m, max (max (tn a b s) (tn b c s)) (tn c a s) = m := ⟨_, rfl⟩
  obtain ⟨x1, k1⟩ : ∃ m, min (min a.1 b.1) c.1 = m := ⟨_, rfl⟩
  obtain ⟨x2, k2⟩ : ∃ m, max (max a.1 b.1) c.1 = m := ⟨_, rfl⟩
  obtain ⟨y1, l1⟩ : ∃ m, min (min a.2 b.2) c.2 = m := ⟨_, rfl⟩
  obtain ⟨y2, l2⟩ : ∃ m, max (max a.2 b.2) c.2 = m := ⟨_, rfl⟩
  have hi : inP a b c s ↔ ¬ (m1 < 0 ∧ 0 < m2) ∧ (x1 ≤ s.1 ∧ s.1 ≤ x2) ∧ y1 ≤ s.2 ∧ s.2 ≤ y2 := by
    unfold inP bxP
    rw [h1, h2, k1, k2, l1, l2]
  have ht : ¬ (m1 < 0 ∧ 0 < m2) ∧ (x1 ≤ s.1 ∧ s.1 ≤ x2) ∧ y1 ≤ s.2 ∧ s.2 ≤ y2 → res = true := fun h => by rw [← hr]; exact decide_eq_true (hi.2 h)
  have hf : ¬ (¬ (m1 < 0 ∧ 0 < m2) ∧ (x1 ≤ s.1 ∧ s.1 ≤ x2) ∧ y1 ≤ s.2 ∧ s.2 ≤ y2) → res = false := fun h => by rw [← hr]; exact decide_eq_false (fun k => h (hi.1 k))
  clear hr hi
  generalize tn a b s = u at *
  generalize tn b c s = v at *
  generalize tn c a s = t at *
  obtain ⟨a1, a2⟩ := a
  obtain ⟨b1, b2⟩ := b
  obtain ⟨c1, c2⟩ := c
  obtain ⟨s1, s2⟩ := s
  dsimp only at *
  clear ha hb hc hs
  have HB : Hid (At ((((w.alloc (.cells #[.int .i64 a1, .int .i64 a2] 52)).alloc (.cells #[.int .i64 b1, .int .i64 b2] 52)).alloc (.cells #[.int .i64 c1, .int .i64 c2] 52)).alloc (.cells #[.int .i64 s1, .int .i64 s2] 52)) w.heap.size [.int .i64 a1, .int .i64 a2] ∧ At ((((w.alloc (.cells #[.int .i64 a1, .int .i64 a2] 52)).alloc (.cells #[.int .i64 b1, .int .i64 b2] 52)).alloc (.cells #[.int .i64 c1, .int .i64 c2] 52)).alloc (.cells #[.int .i64 s1, .int .i64 s2] 52)) (w.heap.size + 1) [.int .i64 b1, .int .i64 b2] ∧ At ((((w.alloc (.cells #[.int .i64 a1, .int .i64 a2] 52)).alloc (.cells #[.int .i64 b1, .int .i64 b2] 52)).alloc (.cells #[.int .i64 c1, .int .i64 c2] 52)).alloc (.cells #[.int .i64 s1, .int .i64 s2] 52)) (w.heap.size + 1 + 1) [.int .i64 c1, .int .i64 c2] ∧ At ((((w.alloc (.cells #[.int .i64 a1, .int .i64 a2] 52)).alloc (.cells #[.int .i64 b1, .int .i64 b2] 52)).alloc (.cells #[.int .i64 c1, .int .i64 c2] 52)).alloc (.cells #[.int .i64 s1, .int .i64 s2] 52)) (w.heap.size + 1 + 1 + 1) [.int .i64 s1, .int .i64 s2] ∧ Gr w ((((w.alloc (.cells #[.int .i64 a1, .int .i64 a2] 52)).alloc (.cells #[.int .i64 b1, .int .i64 b2] 52)).alloc (.cells #[.int .i64 c1, .int .i64 c2] 52)).alloc (.cells #[.int .i64 s1, .int .i64 s2] 52))) := by
    refine ⟨(((At.new2 _ _ _ _).alloc _).alloc _).alloc _, ?_, ?_, ?_, ((((Gr.refl w).alloc _).alloc _).alloc _).alloc _⟩
    · exact ((At.nx2 _ _ _ _).alloc _).alloc _
    · exact (At.ny2 _ _ _ _ _).alloc _
    · have := At.new2 (((w.alloc (.cells #[.int .i64 a1, .int .i64 a2] 52)).alloc (.cells #[.int .i64 b1, .int .i64 b2] 52)).alloc (.cells #[.int .i64 c1, .int .i64 c2] 52)) (.int .i64 s1) (.int .i64 s2) 52
      simpa using this
  have HC : Hid (∀ W, Gr ((((w.alloc (.cells #[.int .i64 a1, .int .i64 a2] 52)).alloc (.cells #[.int .i64 b1, .int .i64 b2] 52)).alloc (.cells #[.int .i64 c1, .int .i64 c2] 52)).alloc (.cells #[.int .i64 s1, .int .i64 s2] 52)) W → (W.cell? ⟨w.heap.size, 0, none⟩ = some (.int .i64 a1) ∧ W.cell? ⟨w.heap.size, 1, none⟩ = some (.int .i64 a2)) ∧ (W.cell? ⟨w.heap.size + 1, 0, none⟩ = some (.int .i64 b1) ∧ W.cell? ⟨w.heap.size + 1, 1, none⟩ = some (.int .i64 b2)) ∧ (W.cell? ⟨w.heap.size + 1 + 1, 0, none⟩ = some (.int .i64 c1) ∧ W.cell? ⟨w.heap.size + 1 + 1, 1, none⟩ = some (.int .i64 c2)) ∧ (W.cell? ⟨w.heap.size + 1 + 1 + 1, 0, none⟩ = some (.int .i64 s1) ∧ W.cell? ⟨w.heap.size + 1 + 1 + 1, 1, none⟩ = some (.int .i64 s2))) := fun W hG =>
    ⟨(At.below hG.out HB.out.1).c2, (At.below hG.out HB.out.2.1).c2, (At.below hG.out HB.out.2.2.1).c2, (At.below hG.out HB.out.2.2.2.1).c2⟩
  have HG := hidb HB.out.2.2.2.2
  clear HB
  go_enter Tryd.func79, Tryd.ntmps79
  go_upto_region 1 with fail
  generalize (((w.alloc (.cells #[.int .i64 a1, .int .i64 a2] 52)).alloc (.cells #[.int .i64 b1, .int .i64 b2] 52)).alloc (.cells #[.int .i64 c1, .int .i64 c2] 52)).alloc (.cells #[.int .i64 s1, .int .i64 s2] 52) = W4 at *
  generalize w.heap.size = Z at *
  refine wp_region_held_drew (S := (fun w' => (w'.cell? ⟨Z, 0, none⟩ = some (.int .i64 a1) ∧ w'.cell? ⟨Z, 1, none⟩ = some (.int .i64 a2)) ∧ (w'.cell? ⟨Z + 1, 0, none⟩ = some (.int .i64 b1) ∧ w'.cell? ⟨Z + 1, 1, none⟩ = some (.int .i64 b2)) ∧ (w'.cell? ⟨Z + 1 + 1, 0, none⟩ = some (.int .i64 c1) ∧ w'.cell? ⟨Z + 1 + 1, 1, none⟩ = some (.int .i64 c2)) ∧ (w'.cell? ⟨Z + 1 + 1 + 1, 0, none⟩ = some (.int .i64 s1) ∧ w'.cell? ⟨Z + 1 + 1 + 1, 1, none⟩ = some (.int .i64 s2)))) (by kernel_rfl) ?_ (fun hHeld => ?_)
  · (try dsimp only); exact HC.out _ (Gr.refl W4).drew
  have GG := hidb (Gr.refl W4).drew
  generalize W4.drew = V0 at *
  refine wt (i := 0) (v := ?vi1q0x4) rfl ?hi1q0x4 ?ri1q0x4
  case hi1q0x4 => (intro w hSw; (try dsimp only at hSw); obtain ⟨⟨z0, z1⟩, ⟨z2, z3⟩, ⟨z4, z5⟩, z6, z7⟩ := hSw; go_simp; try with_reducible rfl)
  (try simp only [Act.put, lq1, lq2, lq4, lq5, lq6])
  refine wt (i := 1) (v := ?vi1q1x7) rfl ?hi1q1x7 ?ri1q1x7
  case hi1q1x7 => (intro w hSw; (try dsimp only at hSw); obtain ⟨⟨z0, z1⟩, ⟨z2, z3⟩, ⟨z4, z5⟩, z6, z7⟩ := hSw; go_simp; try with_reducible rfl)
  (try simp only [Act.put, lq1, lq2, lq3, lq4, lq5, lq6])
  refine wt (i := 2) (v := ?vi1q2x10) rfl ?hi1q2x10 ?ri1q2x10
  case hi1q2x10 => (intro w hSw; (try dsimp only at hSw); obtain ⟨⟨z0, z1⟩, ⟨z2, z3⟩, ⟨z4, z5⟩, z6, z7⟩ := hSw; go_simp; try with_reducible rfl)
  (try simp only [Act.put, lq1, lq2, lq3, lq4, lq5, lq6])
  refine wt (i := 4) (v := ?vi1q4x13) rfl ?hi1q4x13 ?ri1q4x13
  case hi1q4x13 => (intro w hSw; (try dsimp only at hSw); obtain ⟨⟨z0, z1⟩, ⟨z2, z3⟩, ⟨z4, z5⟩, z6, z7⟩ := hSw; go_simp; try with_reducible rfl)
  (try simp only [Act.put, lq1, lq2, lq3, lq4, lq5, lq6])
  refine wt (i := 5) (v := ?vi1q5x16) rfl ?hi1q5x16 ?ri1q5x16
  case hi1q5x16 => (intro w hSw; (try dsimp only at hSw); obtain ⟨⟨z0, z1⟩, ⟨z2, z3⟩, ⟨z4, z5⟩, z6, z7⟩ := hSw; go_simp; try with_reducible rfl)
  (try simp only [Act.put, lq1, lq2, lq3, lq4, lq5, lq6])
  refine wt (i := 6) (v := ?vi1q6x19) rfl ?hi1q6x19 ?ri1q6x19
  case hi1q6x19 => (intro w hSw; (try dsimp only at hSw); obtain ⟨⟨z0, z1⟩, ⟨z2, z3⟩, ⟨z4, z5⟩, z6, z7⟩ := hSw; go_simp; try with_reducible rfl)
  (try simp only [Act.put, lq1, lq2, lq3, lq4, lq5, lq6])
  refine wt (i := 8) (v := ?vi1q8x22) rfl ?hi1q8x22 ?ri1q8x22
  case hi1q8x22 => (intro w hSw; (try dsimp only at hSw); obtain ⟨⟨z0, z1⟩, ⟨z2, z3⟩, ⟨z4, z5⟩, z6, z7⟩ := hSw; go_simp; try with_reducible rfl)
  (try simp only [Act.put, lq1, lq2, lq3, lq4, lq5, lq6])
  refine wt (i := 9) (v := ?vi1q9x25) rfl ?hi1q9x25 ?ri1q9x25
  case hi1q9x25 => (intro w hSw; (try dsimp only at hSw); obtain ⟨⟨z0, z1⟩, ⟨z2, z3⟩, ⟨z4, z5⟩, z6, z7⟩ := hSw; go_simp; try with_reducible rfl)
  (try simp only [Act.put, lq1, lq2, lq3, lq4, lq5, lq6])
  refine wt (i := 10) (v := ?vi1q10x28) rfl ?hi1q10x28 ?ri1q10x28
  case hi1q10x28 => (intro w hSw; (try dsimp only at hSw); obtain ⟨⟨z0, z1⟩, ⟨z2, z3⟩, ⟨z4, z5⟩, z6, z7⟩ := hSw; go_simp; try with_reducible rfl)
  (try simp only [Act.put, lq1, lq2, lq3, lq4, lq5, lq6])
  refine wpAnyH_ready (rs := [3]) (by kernel_rfl) (by simp) ?_
  refine AllReadyH.cons rfl (fun K hK => ?_) AllReadyH.nil
  go_simp
  go_wp2_with (go_at_call 69; refine (HU.out _).mono ?_; rintro e V1 ⟨rfl, hB⟩)
  refine hK.out _ _ ?_ (fun hHeld => ?_)
  · (try dsimp only); exact HC.out _ (Gr.step GG.out hB.out)
  clear hK K
  replace GG := hidb (Gr.step GG.out hB.out)
  clear hB
  refine wpAnyH_ready (rs := [7]) (by kernel_rfl) (by simp) ?_
  refine AllReadyH.cons rfl (fun K hK => ?_) AllReadyH.nil
  go_simp
  go_wp2_with (go_at_call 69; refine (HV.out _).mono ?_; rintro e V2 ⟨rfl, hB⟩)
  refine hK.out _ _ ?_ (fun hHeld => ?_)
  · (try dsimp only); exact HC.out _ (Gr.step GG.out hB.out)
  clear hK K
  replace GG := hidb (Gr.step GG.out hB.out)
  clear hB
  refine wpAnyH_ready (rs := [11]) (by kernel_rfl) (by simp) ?_
  refine AllReadyH.cons rfl (fun K hK => ?_) AllReadyH.nil
  go_simp
  go_wp2_with (go_at_call 69; refine (HW.out _).mono ?_; rintro e V3 ⟨rfl, hB⟩)
  refine hK.out _ _ ?_ (fun hHeld => ?_)
  · (try dsimp only); exact HC.out _ (Gr.step GG.out hB.out)
  clear hK K
  replace GG := hidb (Gr.step GG.out hB.out)
  clear hB
  refine wt (i := 12) (v := ?vi1q12x58) rfl ?hi1q12x58 ?ri1q12x58
  case hi1q12x58 => (intro w hSw; (try dsimp only at hSw); obtain ⟨⟨z0, z1⟩, ⟨z2, z3⟩, ⟨z4, z5⟩, z6, z7⟩ := hSw; go_simp; try with_reducible rfl)
  (try simp only [Act.put, lq1, lq2, lq3, lq4, lq5, lq6])
  refine wt (i := 13) (v := ?vi1q13x61) rfl ?hi1q13x61 ?ri1q13x61
  case hi1q13x61 => (intro w hSw; (try dsimp only at hSw); obtain ⟨⟨z0, z1⟩, ⟨z2, z3⟩, ⟨z4, z5⟩, z6, z7⟩ := hSw; go_simp; try with_reducible rfl)
  (try simp only [Act.put, lq1, lq2, lq3, lq4, lq5, lq6])
  refine wt (i := 14) (v := ?vi1q14x64) rfl ?hi1q14x64 ?ri1q14x64
  case hi1q14x64 => (intro w hSw; (try dsimp only at hSw); obtain ⟨⟨z0, z1⟩, ⟨z2, z3⟩, ⟨z4, z5⟩, z6, z7⟩ := hSw; go_simp; try with_reducible rfl)
  (try simp only [Act.put, lq1, lq2, lq3, lq4, lq5, lq6])
  refine wpAnyH_done (by kernel_rfl) ?_ _
  have HF := hidb (Gr.step HG.out GG.out.out)
  obtain ⟨⟨z0, z1⟩, ⟨z2, z3⟩, ⟨z4, z5⟩, z6, z7⟩ := HC.out _ GG.out
  clear HC GG HG hHeld HU HV HW
  by_cases e1 : ¬ m1 < 0
  · have e1' : ¬ m1 < 0 := by omega
    clear e1
    by_cases d0 : ¬ x1 ≤ s1
    · have d0' : s1 < x1 := by omega
      obtain rfl := hf (fun h => by omega)
      clear ht hf
      go_wp2_with fail
      go_ret
      exact ⟨rfl, HF.out⟩
    · have d0' : x1 ≤ s1 := by omega
      clear d0
      by_cases d1 : ¬ s1 ≤ x2
      · have d1' : x2 < s1 := by omega
        obtain rfl := hf (fun h => by omega)
        clear ht hf
        go_wp2_with fail
        go_ret
        exact ⟨rfl, HF.out⟩
      · have d1' : s1 ≤ x2 := by omega
        clear d1
        by_cases d2 : ¬ y1 ≤ s2
        · have d2' : s2 < y1 := by omega
          obtain rfl := hf (fun h => by omega)
          clear ht hf
          go_wp2_with fail
          go_ret
          exact ⟨rfl, HF.out⟩
        · have d2' : y1 ≤ s2 := by omega
          clear d2
          by_cases d3 : ¬ s2 ≤ y2
          · have d3' : y2 < s2 := by omega
            obtain rfl := hf (fun h => by omega)
            clear ht hf
            go_wp2_with fail
            go_ret
            exact ⟨rfl, HF.out⟩
          · have d3' : s2 ≤ y2 := by omega
            clear d3
            obtain rfl := ht ⟨by omega, ⟨by omega, by omega⟩, by omega, by omega⟩
            clear ht hf
            go_wp2_with fail
            go_ret
            exact ⟨rfl, HF.out⟩
  · have e1' : m1 < 0 := by omega
    by_cases e2 : ¬ 0 < m2
    · have e2' : ¬ 0 < m2 := by omega
      clear e2
      by_cases d0 : ¬ x1 ≤ s1
      · have d0' : s1 < x1 := by omega
        obtain rfl := hf (fun h => by omega)
        clear ht hf
        go_wp2_with fail
        go_ret
        exact ⟨rfl, HF.out⟩
      · have d0' : x1 ≤ s1 := by omega
        clear d0
        by_cases d1 : ¬ s1 ≤ x2
        · have d1' : x2 < s1 := by omega
          obtain rfl := hf (fun h => by omega)
          clear ht hf
          go_wp2_with fail
          go_ret
          exact ⟨rfl, HF.out⟩
        · have d1' : s1 ≤ x2 := by omega
          clear d1
          by_cases d2 : ¬ y1 ≤ s2
          · have d2' : s2 < y1 := by omega
            obtain rfl := hf (fun h => by omega)
            clear ht hf
            go_wp2_with fail
            go_ret
            exact ⟨rfl, HF.out⟩
          · have d2' : y1 ≤ s2 := by omega
            clear d2
            by_cases d3 : ¬ s2 ≤ y2
            · have d3' : y2 < s2 := by omega
              obtain rfl := hf (fun h => by omega)
              clear ht hf
              go_wp2_with fail
              go_ret
              exact ⟨rfl, HF.out⟩
            · have d3' : s2 ≤ y2 := by omega
              clear d3
              obtain rfl := ht ⟨by omega, ⟨by omega, by omega⟩, by omega, by omega⟩
              clear ht hf
              go_wp2_with fail
              go_ret
              exact ⟨rfl, HF.out⟩
    · have e2' : 0 < m2 := by omega
      obtain rfl := hf (fun h => by omega)
      clear ht hf
      go_wp2_with fail
      go_ret
      exact ⟨rfl, HF.out⟩
end Go.Proofs.YtnadgoomkaldkaaDoor
namespace Go.Proofs.YtnadgoomkaldkaaDoor
open Go.RowKit
attribute [local go_sem ↓] Go.wp_at_zero Go.wp_at_succ

instance (a b c s : Sp) : Decidable (rfP a b c s) := by unfold rfP; exact inferInstance
end Go.Proofs.YtnadgoomkaldkaaDoor
