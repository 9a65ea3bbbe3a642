/-
  mercatorref5.isNode.
-/
import Derived.Test.YtnadgoomkaldkaaDoorQTk
import Derived.Test.YtnadgoomkaldkaaDoorQJ8
namespace Go.Proofs.YtnadgoomkaldkaaDoor
open Go.RowKit
attribute [local go_sem ↓] Go.wp_at_zero Go.wp_at_succ

set_option maxRecDepth 20000 in
set_option maxHeartbeats 4000000 in
theorem isNode_any {ad : Option Addr} {b o cap k : Nat} {a : List Sp} {x : Sp} (ll : a.length ≤ 5000) (hk : k + 1 < a.length) (w : World) (h : SSl w ad b o cap a) : Calls Tryd.prog 39 #[.slice ad a.length cap, .int .i64 k, sv x] w fun e w' => e = .returned (.bool (decide (ndP a k x))) ∧ Gr w w' := by
  obtain ⟨m, hm⟩ : ∃ m, a.length = m + 2 := ⟨a.length - 2, by omega⟩
  generalize hr : decide (ndP a k x) = r
  have hi : ndP a k x ↔ (k = 0 ∧ x = sx a 0) ∨ (k = m ∧ x = sx a (m + 1)) := by unfold ndP; rw [hm, show m + 2 - 1 = m + 1 by omega, Nat.add_right_cancel_iff]
  have HT : Hid ((k = 0 ∧ x = sx a 0) ∨ (k = m ∧ x = sx a (m + 1)) → r = true) := fun hp => by rw [← hr]; exact decide_eq_true (hi.2 hp)
  have HF : Hid (¬ ((k = 0 ∧ x = sx a 0) ∨ (k = m ∧ x = sx a (m + 1))) → r = false) := fun hp => by rw [← hr]; exact decide_eq_false (fun hq => hp (hi.1 hq))
  clear hr hi
  have HQ := hidb (fun W (hW : Gr w W) => And.intro (by have := ((h.gr hW).row 0 (by omega)).1; rw [Nat.zero_mul, Nat.add_zero] at this; exact this) ((h.gr hW).row (m + 1) (by omega)).1)
  have ix := h.ix (m + 1) (by omega)
  have ix0 := h.ix 0 (by omega)
  rw [Nat.zero_mul, Nat.add_zero] at ix0
  push_cast at ix0
  have f1 : IntKind.i64.wrap (((m + 2 : Nat) : Int) - 1) = ((m + 1 : Nat) : Int) := by rw [show ((m + 2 : Nat) : Int) - 1 = ((m + 1 : Nat) : Int) by omega]; exact wr_in (by omega) (by omega)
  have f2 : IntKind.i64.wrap (((m + 2 : Nat) : Int) - 2) = (m : Int) := by rw [show ((m + 2 : Nat) : Int) - 2 = (m : Int) by omega]; exact wr_in (by omega) (by omega)
  have g0 := sp_eq x (sx a 0)
  have g1 := sp_eq x (sx a (m + 1))
  rw [hm] at ix ix0 ⊢
  generalize sx a 0 = q at *
  generalize sx a (m + 1) = p at *
  generalize m + 1 = m1 at *
  generalize m + 2 = m2 at *
  have FA := At.new2 w (.int .i64 x.1) (.int .i64 x.2) 52
  have HC := (Gr.refl w).alloc (.cells #[.int .i64 x.1, .int .i64 x.2] 52)
  clear hm h ll hk
  by_cases c0 : k = 0
  · by_cases c1 : x = q
    · obtain rfl := HT.out (.inl ⟨c0, c1⟩)
      rw [decide_eq_true c1] at g0
      subst c0
      clear c1 HT HF g1
      go_enter Tryd.func39, Tryd.ntmps39
      go_upto_region 1 with fail
      generalize w.alloc (.cells #[.int .i64 x.1, .int .i64 x.2] 52) = W1 at *
      refine wp_region_held_drew (S := (fun w' => (w'.cell? ⟨w.heap.size, 0, none⟩ = some (.int .i64 x.1) ∧ w'.cell? ⟨w.heap.size, 1, none⟩ = some (.int .i64 x.2)) ∧ (w'.cell? ⟨b, o, none⟩ = some (.int .i64 q.1) ∧ w'.cell? ⟨b, o + 1, none⟩ = some (.int .i64 q.2)) ∧ w'.cell? ⟨b, o + m1 * 2, none⟩ = some (.int .i64 p.1) ∧ w'.cell? ⟨b, o + m1 * 2 + 1, none⟩ = some (.int .i64 p.2))) (by kernel_rfl) ?_ (fun hHeld => ?_)
      · (try dsimp only); (with_reducible first | exact ⟨FA.c2, HQ.out _ HC⟩ | exact ⟨FA.drew.c2, HQ.out _ HC.drew⟩)
      refine wt (i := 0) (v := ?vt1q0x2) rfl ?ht1q0x2 ?rt1q0x2
      case ht1q0x2 => (intro w hSw; (try dsimp only at hSw); go_simp; try with_reducible rfl)
      (try simp only [Act.put, lq1, lq2, lq4, lq5, lq6])
      refine wt (i := 1) (v := ?vt1q1x5) rfl ?ht1q1x5 ?rt1q1x5
      case ht1q1x5 => (intro w hSw; (try dsimp only at hSw); go_simp; try with_reducible rfl)
      (try simp only [Act.put, lq1, lq2, lq3, lq4, lq5, lq6])
      refine wt (i := 2) (v := ?vt1q2x8) rfl ?ht1q2x8 ?rt1q2x8
      case ht1q2x8 => (intro w hSw; (try dsimp only at hSw); go_simp; try with_reducible rfl)
      (try simp only [Act.put, lq1, lq2, lq3, lq4, lq5, lq6])
      refine wt (i := 3) (v := ?vt1q3x11) rfl ?ht1q3x11 ?rt1q3x11
      case ht1q3x11 => (intro w hSw; (try dsimp only at hSw); go_simp; try with_reducible rfl)
      (try simp only [Act.put, lq1, lq2, lq3, lq4, lq5, lq6])
      refine wt (i := 4) (v := ?vt1q4x14) rfl ?ht1q4x14 ?rt1q4x14
      case ht1q4x14 => (intro w hSw; (try dsimp only at hSw); go_simp; try with_reducible rfl)
      (try simp only [Act.put, lq1, lq2, lq3, lq4, lq5, lq6])
      refine wt (i := 5) (v := ?vt1q5x17) rfl ?ht1q5x17 ?rt1q5x17
      case ht1q5x17 => (intro w hSw; (try dsimp only at hSw); go_simp; try with_reducible rfl)
      (try simp only [Act.put, lq1, lq2, lq3, lq4, lq5, lq6])
      refine wt (i := 6) (v := ?vt1q6x20) rfl ?ht1q6x20 ?rt1q6x20
      case ht1q6x20 => (intro w hSw; (try dsimp only at hSw); go_simp; try with_reducible rfl)
      (try simp only [Act.put, lq1, lq2, lq3, lq4, lq5, lq6])
      refine wt (i := 7) (v := ?vt1q7x23) rfl ?ht1q7x23 ?rt1q7x23
      case ht1q7x23 => (intro w hSw; (try dsimp only at hSw); go_simp; try with_reducible rfl)
      (try simp only [Act.put, lq1, lq2, lq3, lq4, lq5, lq6])
      refine wt (i := 8) (v := ?vt1q8x26) rfl ?ht1q8x26 ?rt1q8x26
      case ht1q8x26 => (intro w hSw; (try dsimp only at hSw); go_simp; try with_reducible rfl)
      (try simp only [Act.put, lq1, lq2, lq3, lq4, lq5, lq6])
      refine wt (i := 9) (v := ?vt1q9x29) rfl ?ht1q9x29 ?rt1q9x29
      case ht1q9x29 => (intro w hSw; (try dsimp only at hSw); go_simp; try with_reducible rfl)
      (try simp only [Act.put, lq1, lq2, lq3, lq4, lq5, lq6])
      refine wu (i := 10) rfl ?_
      (try simp only [Act.put, lq1, lq2, lq3, lq4, lq5, lq6])
      refine wu (i := 11) rfl ?_
      (try simp only [Act.put, lq1, lq2, lq3, lq4, lq5, lq6])
      refine wu (i := 12) rfl ?_
      (try simp only [Act.put, lq1, lq2, lq3, lq4, lq5, lq6])
      refine wu (i := 13) rfl ?_
      (try simp only [Act.put, lq1, lq2, lq3, lq4, lq5, lq6])
      refine wu (i := 14) rfl ?_
      (try simp only [Act.put, lq1, lq2, lq3, lq4, lq5, lq6])
      refine wu (i := 15) rfl ?_
      (try simp only [Act.put, lq1, lq2, lq3, lq4, lq5, lq6])
      refine wu (i := 16) rfl ?_
      (try simp only [Act.put, lq1, lq2, lq3, lq4, lq5, lq6])
      refine wu (i := 17) rfl ?_
      (try simp only [Act.put, lq1, lq2, lq3, lq4, lq5, lq6])
      refine wu (i := 18) rfl ?_
      (try simp only [Act.put, lq1, lq2, lq3, lq4, lq5, lq6])
      refine wu (i := 19) rfl ?_
      (try simp only [Act.put, lq1, lq2, lq3, lq4, lq5, lq6])
      refine wu (i := 20) rfl ?_
      (try simp only [Act.put, lq1, lq2, lq3, lq4, lq5, lq6])
      refine wu (i := 21) rfl ?_
      (try simp only [Act.put, lq1, lq2, lq3, lq4, lq5, lq6])
      refine wu (i := 22) rfl ?_
      (try simp only [Act.put, lq1, lq2, lq3, lq4, lq5, lq6])
      refine wu (i := 23) rfl ?_
      (try simp only [Act.put, lq1, lq2, lq3, lq4, lq5, lq6])
      refine wu (i := 24) rfl ?_
      (try simp only [Act.put, lq1, lq2, lq3, lq4, lq5, lq6])
      refine wt (i := 25) (v := ?vt1q25x62) rfl ?ht1q25x62 ?rt1q25x62
      case ht1q25x62 => (intro w hSw; (try dsimp only at hSw); go_simp; try with_reducible rfl)
      (try simp only [Act.put, lq1, lq2, lq3, lq4, lq5, lq6])
      refine wt (i := 26) (v := ?vt1q26x65) rfl ?ht1q26x65 ?rt1q26x65
      case ht1q26x65 => (intro w hSw; (try dsimp only at hSw); go_simp; try with_reducible rfl)
      (try simp only [Act.put, lq1, lq2, lq3, lq4, lq5, lq6])
      refine wpAnyH_done (by kernel_rfl) ?_ _
      go_wp2
      go_ret
      exact ⟨rfl, HC.drew⟩
    · rw [decide_eq_false c1] at g0
      by_cases c2 : k = m
      · by_cases c3 : x = p
        · obtain rfl := HT.out (.inr ⟨c2, c3⟩)
          rw [decide_eq_true c3] at g1
          subst c0
          subst c2
          replace f2 : IntKind.i64.wrap ((m2 : Int) - 2) = 0 := f2
          clear c1 c3 HT HF
          go_enter Tryd.func39, Tryd.ntmps39
          go_upto_region 1 with fail
          generalize w.alloc (.cells #[.int .i64 x.1, .int .i64 x.2] 52) = W1 at *
          refine wp_region_held_drew (S := (fun w' => (w'.cell? ⟨w.heap.size, 0, none⟩ = some (.int .i64 x.1) ∧ w'.cell? ⟨w.heap.size, 1, none⟩ = some (.int .i64 x.2)) ∧ (w'.cell? ⟨b, o, none⟩ = some (.int .i64 q.1) ∧ w'.cell? ⟨b, o + 1, none⟩ = some (.int .i64 q.2)) ∧ w'.cell? ⟨b, o + m1 * 2, none⟩ = some (.int .i64 p.1) ∧ w'.cell? ⟨b, o + m1 * 2 + 1, none⟩ = some (.int .i64 p.2))) (by kernel_rfl) ?_ (fun hHeld => ?_)
          · (try dsimp only); (with_reducible first | exact ⟨FA.c2, HQ.out _ HC⟩ | exact ⟨FA.drew.c2, HQ.out _ HC.drew⟩)
          refine wt (i := 0) (v := ?vt2q0x2) rfl ?ht2q0x2 ?rt2q0x2
          case ht2q0x2 => (intro w hSw; (try dsimp only at hSw); go_simp; try with_reducible rfl)
          (try simp only [Act.put, lq1, lq2, lq4, lq5, lq6])
          refine wt (i := 1) (v := ?vt2q1x5) rfl ?ht2q1x5 ?rt2q1x5
          case ht2q1x5 => (intro w hSw; (try dsimp only at hSw); go_simp; try with_reducible rfl)
          (try simp only [Act.put, lq1, lq2, lq3, lq4, lq5, lq6])
          refine wt (i := 2) (v := ?vt2q2x8) rfl ?ht2q2x8 ?rt2q2x8
          case ht2q2x8 => (intro w hSw; (try dsimp only at hSw); go_simp; try with_reducible rfl)
          (try simp only [Act.put, lq1, lq2, lq3, lq4, lq5, lq6])
          refine wt (i := 3) (v := ?vt2q3x11) rfl ?ht2q3x11 ?rt2q3x11
          case ht2q3x11 => (intro w hSw; (try dsimp only at hSw); go_simp; try with_reducible rfl)
          (try simp only [Act.put, lq1, lq2, lq3, lq4, lq5, lq6])
          refine wt (i := 4) (v := ?vt2q4x14) rfl ?ht2q4x14 ?rt2q4x14
          case ht2q4x14 => (intro w hSw; (try dsimp only at hSw); go_simp; try with_reducible rfl)
          (try simp only [Act.put, lq1, lq2, lq3, lq4, lq5, lq6])
          refine wt (i := 5) (v := ?vt2q5x17) rfl ?ht2q5x17 ?rt2q5x17
          case ht2q5x17 => (intro w hSw; (try dsimp only at hSw); go_simp; try with_reducible rfl)
          (try simp only [Act.put, lq1, lq2, lq3, lq4, lq5, lq6])
          refine wt (i := 6) (v := ?vt2q6x20) rfl ?ht2q6x20 ?rt2q6x20
          case ht2q6x20 => (intro w hSw; (try dsimp only at hSw); go_simp; try with_reducible rfl)
          (try simp only [Act.put, lq1, lq2, lq3, lq4, lq5, lq6])
          refine wt (i := 7) (v := ?vt2q7x23) rfl ?ht2q7x23 ?rt2q7x23
          case ht2q7x23 => (intro w hSw; (try dsimp only at hSw); go_simp; try with_reducible rfl)
          (try simp only [Act.put, lq1, lq2, lq3, lq4, lq5, lq6])
          refine wt (i := 8) (v := ?vt2q8x26) rfl ?ht2q8x26 ?rt2q8x26
          case ht2q8x26 => (intro w hSw; (try dsimp only at hSw); go_simp; try with_reducible rfl)
          (try simp only [Act.put, lq1, lq2, lq3, lq4, lq5, lq6])
          refine wt (i := 9) (v := ?vt2q9x29) rfl ?ht2q9x29 ?rt2q9x29
          case ht2q9x29 => (intro w hSw; (try dsimp only at hSw); go_simp; try with_reducible rfl)
          (try simp only [Act.put, lq1, lq2, lq3, lq4, lq5, lq6])
          refine wt (i := 10) (v := ?vt2q10x32) rfl ?ht2q10x32 ?rt2q10x32
          case ht2q10x32 => (intro w hSw; (try dsimp only at hSw); go_simp; try with_reducible rfl)
          (try simp only [Act.put, lq1, lq2, lq3, lq4, lq5, lq6])
          refine wt (i := 11) (v := ?vt2q11x35) rfl ?ht2q11x35 ?rt2q11x35
          case ht2q11x35 => (intro w hSw; (try dsimp only at hSw); go_simp; try with_reducible rfl)
          (try simp only [Act.put, lq1, lq2, lq3, lq4, lq5, lq6])
          refine wt (i := 12) (v := ?vt2q12x38) rfl ?ht2q12x38 ?rt2q12x38
          case ht2q12x38 => (intro w hSw; (try dsimp only at hSw); go_simp; try with_reducible rfl)
          (try simp only [Act.put, lq1, lq2, lq3, lq4, lq5, lq6])
          refine wt (i := 13) (v := ?vt2q13x41) rfl ?ht2q13x41 ?rt2q13x41
          case ht2q13x41 => (intro w hSw; (try dsimp only at hSw); go_simp; try with_reducible rfl)
          (try simp only [Act.put, lq1, lq2, lq3, lq4, lq5, lq6])
          refine wt (i := 14) (v := ?vt2q14x44) rfl ?ht2q14x44 ?rt2q14x44
          case ht2q14x44 => (intro w hSw; (try dsimp only at hSw); go_simp; try with_reducible rfl)
          (try simp only [Act.put, lq1, lq2, lq3, lq4, lq5, lq6])
          refine wt (i := 15) (v := ?vt2q15x47) rfl ?ht2q15x47 ?rt2q15x47
          case ht2q15x47 => (intro w hSw; (try dsimp only at hSw); go_simp; try with_reducible rfl)
          (try simp only [Act.put, lq1, lq2, lq3, lq4, lq5, lq6])
          refine wt (i := 16) (v := ?vt2q16x50) rfl ?ht2q16x50 ?rt2q16x50
          case ht2q16x50 => (intro w hSw; (try dsimp only at hSw); go_simp; try with_reducible rfl)
          (try simp only [Act.put, lq1, lq2, lq3, lq4, lq5, lq6])
          refine wt (i := 17) (v := ?vt2q17x53) rfl ?ht2q17x53 ?rt2q17x53
          case ht2q17x53 => (intro w hSw; (try dsimp only at hSw); go_simp; try with_reducible rfl)
          (try simp only [Act.put, lq1, lq2, lq3, lq4, lq5, lq6])
          refine wt (i := 18) (v := ?vt2q18x56) rfl ?ht2q18x56 ?rt2q18x56
          case ht2q18x56 => (intro w hSw; (try dsimp only at hSw); go_simp; try with_reducible rfl)
          (try simp only [Act.put, lq1, lq2, lq3, lq4, lq5, lq6])
          refine wt (i := 19) (v := ?vt2q19x59) rfl ?ht2q19x59 ?rt2q19x59
          case ht2q19x59 => (intro w hSw; (try dsimp only at hSw); go_simp; try with_reducible rfl)
          (try simp only [Act.put, lq1, lq2, lq3, lq4, lq5, lq6])
          refine wt (i := 20) (v := ?vt2q20x62) rfl ?ht2q20x62 ?rt2q20x62
          case ht2q20x62 => (intro w hSw; (try dsimp only at hSw); go_simp; try with_reducible rfl)
          (try simp only [Act.put, lq1, lq2, lq3, lq4, lq5, lq6])
          refine wt (i := 21) (v := ?vt2q21x65) rfl ?ht2q21x65 ?rt2q21x65
          case ht2q21x65 => (intro w hSw; (try dsimp only at hSw); go_simp; try with_reducible rfl)
          (try simp only [Act.put, lq1, lq2, lq3, lq4, lq5, lq6])
          refine wt (i := 22) (v := ?vt2q22x68) rfl ?ht2q22x68 ?rt2q22x68
          case ht2q22x68 => (intro w hSw; (try dsimp only at hSw); go_simp; try with_reducible rfl)
          (try simp only [Act.put, lq1, lq2, lq3, lq4, lq5, lq6])
          refine wt (i := 23) (v := ?vt2q23x71) rfl ?ht2q23x71 ?rt2q23x71
          case ht2q23x71 => (intro w hSw; (try dsimp only at hSw); go_simp; try with_reducible rfl)
          (try simp only [Act.put, lq1, lq2, lq3, lq4, lq5, lq6])
          refine wt (i := 24) (v := ?vt2q24x74) rfl ?ht2q24x74 ?rt2q24x74
          case ht2q24x74 => (intro w hSw; (try dsimp only at hSw); go_simp; try with_reducible rfl)
          (try simp only [Act.put, lq1, lq2, lq3, lq4, lq5, lq6])
          refine wt (i := 25) (v := ?vt2q25x77) rfl ?ht2q25x77 ?rt2q25x77
          case ht2q25x77 => (intro w hSw; (try dsimp only at hSw); go_simp; try with_reducible rfl)
          (try simp only [Act.put, lq1, lq2, lq3, lq4, lq5, lq6])
          refine wt (i := 26) (v := ?vt2q26x80) rfl ?ht2q26x80 ?rt2q26x80
          case ht2q26x80 => (intro w hSw; (try dsimp only at hSw); go_simp; try with_reducible rfl)
          (try simp only [Act.put, lq1, lq2, lq3, lq4, lq5, lq6])
          refine wpAnyH_done (by kernel_rfl) ?_ _
          go_wp2
          go_ret
          exact ⟨rfl, HC.drew⟩
        · obtain rfl := HF.out (fun hp => hp.elim (fun h => c1 h.2) (fun h => c3 h.2))
          rw [decide_eq_false c3] at g1
          subst c0
          subst c2
          replace f2 : IntKind.i64.wrap ((m2 : Int) - 2) = 0 := f2
          clear c1 c3 HT HF
          go_enter Tryd.func39, Tryd.ntmps39
          go_upto_region 1 with fail
          generalize w.alloc (.cells #[.int .i64 x.1, .int .i64 x.2] 52) = W1 at *
          refine wp_region_held_drew (S := (fun w' => (w'.cell? ⟨w.heap.size, 0, none⟩ = some (.int .i64 x.1) ∧ w'.cell? ⟨w.heap.size, 1, none⟩ = some (.int .i64 x.2)) ∧ (w'.cell? ⟨b, o, none⟩ = some (.int .i64 q.1) ∧ w'.cell? ⟨b, o + 1, none⟩ = some (.int .i64 q.2)) ∧ w'.cell? ⟨b, o + m1 * 2, none⟩ = some (.int .i64 p.1) ∧ w'.cell? ⟨b, o + m1 * 2 + 1, none⟩ = some (.int .i64 p.2))) (by kernel_rfl) ?_ (fun hHeld => ?_)
          · (try dsimp only); (with_reducible first | exact ⟨FA.c2, HQ.out _ HC⟩ | exact ⟨FA.drew.c2, HQ.out _ HC.drew⟩)
          refine wt (i := 0) (v := ?vt3q0x2) rfl ?ht3q0x2 ?rt3q0x2
          case ht3q0x2 => (intro w hSw; (try dsimp only at hSw); go_simp; try with_reducible rfl)
          (try simp only [Act.put, lq1, lq2, lq4, lq5, lq6])
          refine wt (i := 1) (v := ?vt3q1x5) rfl ?ht3q1x5 ?rt3q1x5
          case ht3q1x5 => (intro w hSw; (try dsimp only at hSw); go_simp; try with_reducible rfl)
          (try simp only [Act.put, lq1, lq2, lq3, lq4, lq5, lq6])
          refine wt (i := 2) (v := ?vt3q2x8) rfl ?ht3q2x8 ?rt3q2x8
          case ht3q2x8 => (intro w hSw; (try dsimp only at hSw); go_simp; try with_reducible rfl)
          (try simp only [Act.put, lq1, lq2, lq3, lq4, lq5, lq6])
          refine wt (i := 3) (v := ?vt3q3x11) rfl ?ht3q3x11 ?rt3q3x11
          case ht3q3x11 => (intro w hSw; (try dsimp only at hSw); go_simp; try with_reducible rfl)
          (try simp only [Act.put, lq1, lq2, lq3, lq4, lq5, lq6])
          refine wt (i := 4) (v := ?vt3q4x14) rfl ?ht3q4x14 ?rt3q4x14
          case ht3q4x14 => (intro w hSw; (try dsimp only at hSw); go_simp; try with_reducible rfl)
          (try simp only [Act.put, lq1, lq2, lq3, lq4, lq5, lq6])
          refine wt (i := 5) (v := ?vt3q5x17) rfl ?ht3q5x17 ?rt3q5x17
          case ht3q5x17 => (intro w hSw; (try dsimp only at hSw); go_simp; try with_reducible rfl)
          (try simp only [Act.put, lq1, lq2, lq3, lq4, lq5, lq6])
          refine wt (i := 6) (v := ?vt3q6x20) rfl ?ht3q6x20 ?rt3q6x20
          case ht3q6x20 => (intro w hSw; (try dsimp only at hSw); go_simp; try with_reducible rfl)
          (try simp only [Act.put, lq1, lq2, lq3, lq4, lq5, lq6])
          refine wt (i := 7) (v := ?vt3q7x23) rfl ?ht3q7x23 ?rt3q7x23
          case ht3q7x23 => (intro w hSw; (try dsimp only at hSw); go_simp; try with_reducible rfl)
          (try simp only [Act.put, lq1, lq2, lq3, lq4, lq5, lq6])
          refine wt (i := 8) (v := ?vt3q8x26) rfl ?ht3q8x26 ?rt3q8x26
          case ht3q8x26 => (intro w hSw; (try dsimp only at hSw); go_simp; try with_reducible rfl)
          (try simp only [Act.put, lq1, lq2, lq3, lq4, lq5, lq6])
          refine wt (i := 9) (v := ?vt3q9x29) rfl ?ht3q9x29 ?rt3q9x29
          case ht3q9x29 => (intro w hSw; (try dsimp only at hSw); go_simp; try with_reducible rfl)
          (try simp only [Act.put, lq1, lq2, lq3, lq4, lq5, lq6])
          refine wt (i := 10) (v := ?vt3q10x32) rfl ?ht3q10x32 ?rt3q10x32
          case ht3q10x32 => (intro w hSw; (try dsimp only at hSw); go_simp; try with_reducible rfl)
          (try simp only [Act.put, lq1, lq2, lq3, lq4, lq5, lq6])
          refine wt (i := 11) (v := ?vt3q11x35) rfl ?ht3q11x35 ?rt3q11x35
          case ht3q11x35 => (intro w hSw; (try dsimp only at hSw); go_simp; try with_reducible rfl)
          (try simp only [Act.put, lq1, lq2, lq3, lq4, lq5, lq6])
          refine wt (i := 12) (v := ?vt3q12x38) rfl ?ht3q12x38 ?rt3q12x38
          case ht3q12x38 => (intro w hSw; (try dsimp only at hSw); go_simp; try with_reducible rfl)
          (try simp only [Act.put, lq1, lq2, lq3, lq4, lq5, lq6])
          refine wt (i := 13) (v := ?vt3q13x41) rfl ?ht3q13x41 ?rt3q13x41
          case ht3q13x41 => (intro w hSw; (try dsimp only at hSw); go_simp; try with_reducible rfl)
          (try simp only [Act.put, lq1, lq2, lq3, lq4, lq5, lq6])
          refine wt (i := 14) (v := ?vt3q14x44) rfl ?ht3q14x44 ?rt3q14x44
          case ht3q14x44 => (intro w hSw; (try dsimp only at hSw); go_simp; try with_reducible rfl)
          (try simp only [Act.put, lq1, lq2, lq3, lq4, lq5, lq6])
          refine wt (i := 15) (v := ?vt3q15x47) rfl ?ht3q15x47 ?rt3q15x47
          case ht3q15x47 => (intro w hSw; (try dsimp only at hSw); go_simp; try with_reducible rfl)
          (try simp only [Act.put, lq1, lq2, lq3, lq4, lq5, lq6])
          refine wt (i := 16) (v := ?vt3q16x50) rfl ?ht3q16x50 ?rt3q16x50
          case ht3q16x50 => (intro w hSw; (try dsimp only at hSw); go_simp; try with_reducible rfl)
          (try simp only [Act.put, lq1, lq2, lq3, lq4, lq5, lq6])
          refine wt (i := 17) (v := ?vt3q17x53) rfl ?ht3q17x53 ?rt3q17x53
          case ht3q17x53 => (intro w hSw; (try dsimp only at hSw); go_simp; try with_reducible rfl)
          (try simp only [Act.put, lq1, lq2, lq3, lq4, lq5, lq6])
          refine wt (i := 18) (v := ?vt3q18x56) rfl ?ht3q18x56 ?rt3q18x56
          case ht3q18x56 => (intro w hSw; (try dsimp only at hSw); go_simp; try with_reducible rfl)
          (try simp only [Act.put, lq1, lq2, lq3, lq4, lq5, lq6])
          refine wt (i := 19) (v := ?vt3q19x59) rfl ?ht3q19x59 ?rt3q19x59
          case ht3q19x59 => (intro w hSw; (try dsimp only at hSw); go_simp; try with_reducible rfl)
          (try simp only [Act.put, lq1, lq2, lq3, lq4, lq5, lq6])
          refine wt (i := 20) (v := ?vt3q20x62) rfl ?ht3q20x62 ?rt3q20x62
          case ht3q20x62 => (intro w hSw; (try dsimp only at hSw); go_simp; try with_reducible rfl)
          (try simp only [Act.put, lq1, lq2, lq3, lq4, lq5, lq6])
          refine wt (i := 21) (v := ?vt3q21x65) rfl ?ht3q21x65 ?rt3q21x65
          case ht3q21x65 => (intro w hSw; (try dsimp only at hSw); go_simp; try with_reducible rfl)
          (try simp only [Act.put, lq1, lq2, lq3, lq4, lq5, lq6])
          refine wt (i := 22) (v := ?vt3q22x68) rfl ?ht3q22x68 ?rt3q22x68
          case ht3q22x68 => (intro w hSw; (try dsimp only at hSw); go_simp; try with_reducible rfl)
          (try simp only [Act.put, lq1, lq2, lq3, lq4, lq5, lq6])
          refine wt (i := 23) (v := ?vt3q23x71) rfl ?ht3q23x71 ?rt3q23x71
          case ht3q23x71 => (intro w hSw; (try dsimp only at hSw); go_simp; try with_reducible rfl)
          (try simp only [Act.put, lq1, lq2, lq3, lq4, lq5, lq6])
          refine wt (i := 24) (v := ?vt3q24x74) rfl ?ht3q24x74 ?rt3q24x74
          case ht3q24x74 => (intro w hSw; (try dsimp only at hSw); go_simp; try with_reducible rfl)
          (try simp only [Act.put, lq1, lq2, lq3, lq4, lq5, lq6])
          refine wt (i := 25) (v := ?vt3q25x77) rfl ?ht3q25x77 ?rt3q25x77
          case ht3q25x77 => (intro w hSw; (try dsimp only at hSw); go_simp; try with_reducible rfl)
          (try simp only [Act.put, lq1, lq2, lq3, lq4, lq5, lq6])
          refine wt (i := 26) (v := ?vt3q26x80) rfl ?ht3q26x80 ?rt3q26x80
          case ht3q26x80 => (intro w hSw; (try dsimp only at hSw); go_simp; try with_reducible rfl)
          (try simp only [Act.put, lq1, lq2, lq3, lq4, lq5, lq6])
          refine wpAnyH_done (by kernel_rfl) ?_ _
          go_wp2
          go_ret
          exact ⟨rfl, HC.drew⟩
      · obtain rfl := HF.out (fun hp => hp.elim (fun h => c1 h.2) (fun h => c2 h.1))
        subst c0
        have c4 : ¬ (0 : Int) = (m : Int) := by omega
        have c5 : ¬ (m : Int) = 0 := by omega
        have c6 : ((0 : Int) == (m : Int)) = false := by simp; omega
        clear c1 HT HF g1
        go_enter Tryd.func39, Tryd.ntmps39
        go_upto_region 1 with fail
        generalize w.alloc (.cells #[.int .i64 x.1, .int .i64 x.2] 52) = W1 at *
        refine wp_region_held_drew (S := (fun w' => (w'.cell? ⟨w.heap.size, 0, none⟩ = some (.int .i64 x.1) ∧ w'.cell? ⟨w.heap.size, 1, none⟩ = some (.int .i64 x.2)) ∧ (w'.cell? ⟨b, o, none⟩ = some (.int .i64 q.1) ∧ w'.cell? ⟨b, o + 1, none⟩ = some (.int .i64 q.2)) ∧ w'.cell? ⟨b, o + m1 * 2, none⟩ = some (.int .i64 p.1) ∧ w'.cell? ⟨b, o + m1 * 2 + 1, none⟩ = some (.int .i64 p.2))) (by kernel_rfl) ?_ (fun hHeld => ?_)
        · (try dsimp only); (with_reducible first | exact ⟨FA.c2, HQ.out _ HC⟩ | exact ⟨FA.drew.c2, HQ.out _ HC.drew⟩)
        refine wt (i := 0) (v := ?vt4q0x2) rfl ?ht4q0x2 ?rt4q0x2
        case ht4q0x2 => (intro w hSw; (try dsimp only at hSw); go_simp; try with_reducible rfl)
        (try simp only [Act.put, lq1, lq2, lq4, lq5, lq6])
        refine wt (i := 1) (v := ?vt4q1x5) rfl ?ht4q1x5 ?rt4q1x5
        case ht4q1x5 => (intro w hSw; (try dsimp only at hSw); go_simp; try with_reducible rfl)
        (try simp only [Act.put, lq1, lq2, lq3, lq4, lq5, lq6])
        refine wt (i := 2) (v := ?vt4q2x8) rfl ?ht4q2x8 ?rt4q2x8
        case ht4q2x8 => (intro w hSw; (try dsimp only at hSw); go_simp; try with_reducible rfl)
        (try simp only [Act.put, lq1, lq2, lq3, lq4, lq5, lq6])
        refine wt (i := 3) (v := ?vt4q3x11) rfl ?ht4q3x11 ?rt4q3x11
        case ht4q3x11 => (intro w hSw; (try dsimp only at hSw); go_simp; try with_reducible rfl)
        (try simp only [Act.put, lq1, lq2, lq3, lq4, lq5, lq6])
        refine wt (i := 4) (v := ?vt4q4x14) rfl ?ht4q4x14 ?rt4q4x14
        case ht4q4x14 => (intro w hSw; (try dsimp only at hSw); go_simp; try with_reducible rfl)
        (try simp only [Act.put, lq1, lq2, lq3, lq4, lq5, lq6])
        refine wt (i := 5) (v := ?vt4q5x17) rfl ?ht4q5x17 ?rt4q5x17
        case ht4q5x17 => (intro w hSw; (try dsimp only at hSw); go_simp; try with_reducible rfl)
        (try simp only [Act.put, lq1, lq2, lq3, lq4, lq5, lq6])
        refine wt (i := 6) (v := ?vt4q6x20) rfl ?ht4q6x20 ?rt4q6x20
        case ht4q6x20 => (intro w hSw; (try dsimp only at hSw); go_simp; try with_reducible rfl)
        (try simp only [Act.put, lq1, lq2, lq3, lq4, lq5, lq6])
        refine wt (i := 7) (v := ?vt4q7x23) rfl ?ht4q7x23 ?rt4q7x23
        case ht4q7x23 => (intro w hSw; (try dsimp only at hSw); go_simp; try with_reducible rfl)
        (try simp only [Act.put, lq1, lq2, lq3, lq4, lq5, lq6])
        refine wt (i := 8) (v := ?vt4q8x26) rfl ?ht4q8x26 ?rt4q8x26
        case ht4q8x26 => (intro w hSw; (try dsimp only at hSw); go_simp; try with_reducible rfl)
        (try simp only [Act.put, lq1, lq2, lq3, lq4, lq5, lq6])
        refine wt (i := 9) (v := ?vt4q9x29) rfl ?ht4q9x29 ?rt4q9x29
        case ht4q9x29 => (intro w hSw; (try dsimp only at hSw); go_simp; try with_reducible rfl)
        (try simp only [Act.put, lq1, lq2, lq3, lq4, lq5, lq6])
        refine wt (i := 10) (v := ?vt4q10x32) rfl ?ht4q10x32 ?rt4q10x32
        case ht4q10x32 => (intro w hSw; (try dsimp only at hSw); go_simp; try with_reducible rfl)
        (try simp only [Act.put, lq1, lq2, lq3, lq4, lq5, lq6])
        refine wt (i := 11) (v := ?vt4q11x35) rfl ?ht4q11x35 ?rt4q11x35
        case ht4q11x35 => (intro w hSw; (try dsimp only at hSw); go_simp; try with_reducible rfl)
        (try simp only [Act.put, lq1, lq2, lq3, lq4, lq5, lq6])
        refine wt (i := 12) (v := ?vt4q12x38) rfl ?ht4q12x38 ?rt4q12x38
        case ht4q12x38 => (intro w hSw; (try dsimp only at hSw); go_simp; try with_reducible rfl)
        (try simp only [Act.put, lq1, lq2, lq3, lq4, lq5, lq6])
        refine wt (i := 13) (v := ?vt4q13x41) rfl ?ht4q13x41 ?rt4q13x41
        case ht4q13x41 => (intro w hSw; (try dsimp only at hSw); go_simp; try with_reducible rfl)
        (try simp only [Act.put, lq1, lq2, lq3, lq4, lq5, lq6])
        refine wt (i := 14) (v := ?vt4q14x44) rfl ?ht4q14x44 ?rt4q14x44
        case ht4q14x44 => (intro w hSw; (try dsimp only at hSw); go_simp; try with_reducible rfl)
        (try simp only [Act.put, lq1, lq2, lq3, lq4, lq5, lq6])
        refine wt (i := 15) (v := ?vt4q15x47) rfl ?ht4q15x47 ?rt4q15x47
        case ht4q15x47 => (intro w hSw; (try dsimp only at hSw); go_simp; try with_reducible rfl)
        (try simp only [Act.put, lq1, lq2, lq3, lq4, lq5, lq6])
        refine wu (i := 16) rfl ?_
        (try simp only [Act.put, lq1, lq2, lq3, lq4, lq5, lq6])
        refine wu (i := 17) rfl ?_
        (try simp only [Act.put, lq1, lq2, lq3, lq4, lq5, lq6])
        refine wu (i := 18) rfl ?_
        (try simp only [Act.put, lq1, lq2, lq3, lq4, lq5, lq6])
        refine wu (i := 19) rfl ?_
        (try simp only [Act.put, lq1, lq2, lq3, lq4, lq5, lq6])
        refine wu (i := 20) rfl ?_
        (try simp only [Act.put, lq1, lq2, lq3, lq4, lq5, lq6])
        refine wu (i := 21) rfl ?_
        (try simp only [Act.put, lq1, lq2, lq3, lq4, lq5, lq6])
        refine wu (i := 22) rfl ?_
        (try simp only [Act.put, lq1, lq2, lq3, lq4, lq5, lq6])
        refine wu (i := 23) rfl ?_
        (try simp only [Act.put, lq1, lq2, lq3, lq4, lq5, lq6])
        refine wt (i := 24) (v := ?vt4q24x66) rfl ?ht4q24x66 ?rt4q24x66
        case ht4q24x66 => (intro w hSw; (try dsimp only at hSw); go_simp; try with_reducible rfl)
        (try simp only [Act.put, lq1, lq2, lq3, lq4, lq5, lq6])
        refine wt (i := 25) (v := ?vt4q25x69) rfl ?ht4q25x69 ?rt4q25x69
        case ht4q25x69 => (intro w hSw; (try dsimp only at hSw); go_simp; try with_reducible rfl)
        (try simp only [Act.put, lq1, lq2, lq3, lq4, lq5, lq6])
        refine wt (i := 26) (v := ?vt4q26x72) rfl ?ht4q26x72 ?rt4q26x72
        case ht4q26x72 => (intro w hSw; (try dsimp only at hSw); go_simp; try with_reducible rfl)
        (try simp only [Act.put, lq1, lq2, lq3, lq4, lq5, lq6])
        refine wpAnyH_done (by kernel_rfl) ?_ _
        go_wp2
        go_ret
        exact ⟨rfl, HC.drew⟩
  · have d0 : ((k : Int) == 0) = false := by simp; omega
    by_cases c2 : k = m
    · by_cases c3 : x = p
      · obtain rfl := HT.out (.inr ⟨c2, c3⟩)
        rw [decide_eq_true c3] at g1
        subst c2
        clear c3 HT HF g0
        go_enter Tryd.func39, Tryd.ntmps39
        go_upto_region 1 with fail
        generalize w.alloc (.cells #[.int .i64 x.1, .int .i64 x.2] 52) = W1 at *
        refine wp_region_held_drew (S := (fun w' => (w'.cell? ⟨w.heap.size, 0, none⟩ = some (.int .i64 x.1) ∧ w'.cell? ⟨w.heap.size, 1, none⟩ = some (.int .i64 x.2)) ∧ (w'.cell? ⟨b, o, none⟩ = some (.int .i64 q.1) ∧ w'.cell? ⟨b, o + 1, none⟩ = some (.int .i64 q.2)) ∧ w'.cell? ⟨b, o + m1 * 2, none⟩ = some (.int .i64 p.1) ∧ w'.cell? ⟨b, o + m1 * 2 + 1, none⟩ = some (.int .i64 p.2))) (by kernel_rfl) ?_ (fun hHeld => ?_)
        · (try dsimp only); (with_reducible first | exact ⟨FA.c2, HQ.out _ HC⟩ | exact ⟨FA.drew.c2, HQ.out _ HC.drew⟩)
        refine wt (i := 0) (v := ?vt5q0x2) rfl ?ht5q0x2 ?rt5q0x2
        case ht5q0x2 => (intro w hSw; (try dsimp only at hSw); go_simp; try with_reducible rfl)
        (try simp only [Act.put, lq1, lq2, lq4, lq5, lq6])
        refine wt (i := 1) (v := ?vt5q1x5) rfl ?ht5q1x5 ?rt5q1x5
        case ht5q1x5 => (intro w hSw; (try dsimp only at hSw); go_simp; try with_reducible rfl)
        (try simp only [Act.put, lq1, lq2, lq3, lq4, lq5, lq6])
        refine wt (i := 2) (v := ?vt5q2x8) rfl ?ht5q2x8 ?rt5q2x8
        case ht5q2x8 => (intro w hSw; (try dsimp only at hSw); go_simp; try with_reducible rfl)
        (try simp only [Act.put, lq1, lq2, lq3, lq4, lq5, lq6])
        refine wu (i := 3) rfl ?_
        (try simp only [Act.put, lq1, lq2, lq3, lq4, lq5, lq6])
        refine wu (i := 4) rfl ?_
        (try simp only [Act.put, lq1, lq2, lq3, lq4, lq5, lq6])
        refine wu (i := 5) rfl ?_
        (try simp only [Act.put, lq1, lq2, lq3, lq4, lq5, lq6])
        refine wu (i := 6) rfl ?_
        (try simp only [Act.put, lq1, lq2, lq3, lq4, lq5, lq6])
        refine wu (i := 7) rfl ?_
        (try simp only [Act.put, lq1, lq2, lq3, lq4, lq5, lq6])
        refine wt (i := 8) (v := ?vt5q8x21) rfl ?ht5q8x21 ?rt5q8x21
        case ht5q8x21 => (intro w hSw; (try dsimp only at hSw); go_simp; try with_reducible rfl)
        (try simp only [Act.put, lq1, lq2, lq3, lq4, lq5, lq6])
        refine wt (i := 9) (v := ?vt5q9x24) rfl ?ht5q9x24 ?rt5q9x24
        case ht5q9x24 => (intro w hSw; (try dsimp only at hSw); go_simp; try with_reducible rfl)
        (try simp only [Act.put, lq1, lq2, lq3, lq4, lq5, lq6])
        refine wt (i := 10) (v := ?vt5q10x27) rfl ?ht5q10x27 ?rt5q10x27
        case ht5q10x27 => (intro w hSw; (try dsimp only at hSw); go_simp; try with_reducible rfl)
        (try simp only [Act.put, lq1, lq2, lq3, lq4, lq5, lq6])
        refine wt (i := 11) (v := ?vt5q11x30) rfl ?ht5q11x30 ?rt5q11x30
        case ht5q11x30 => (intro w hSw; (try dsimp only at hSw); go_simp; try with_reducible rfl)
        (try simp only [Act.put, lq1, lq2, lq3, lq4, lq5, lq6])
        refine wt (i := 12) (v := ?vt5q12x33) rfl ?ht5q12x33 ?rt5q12x33
        case ht5q12x33 => (intro w hSw; (try dsimp only at hSw); go_simp; try with_reducible rfl)
        (try simp only [Act.put, lq1, lq2, lq3, lq4, lq5, lq6])
        refine wt (i := 13) (v := ?vt5q13x36) rfl ?ht5q13x36 ?rt5q13x36
        case ht5q13x36 => (intro w hSw; (try dsimp only at hSw); go_simp; try with_reducible rfl)
        (try simp only [Act.put, lq1, lq2, lq3, lq4, lq5, lq6])
        refine wt (i := 14) (v := ?vt5q14x39) rfl ?ht5q14x39 ?rt5q14x39
        case ht5q14x39 => (intro w hSw; (try dsimp only at hSw); go_simp; try with_reducible rfl)
        (try simp only [Act.put, lq1, lq2, lq3, lq4, lq5, lq6])
        refine wt (i := 15) (v := ?vt5q15x42) rfl ?ht5q15x42 ?rt5q15x42
        case ht5q15x42 => (intro w hSw; (try dsimp only at hSw); go_simp; try with_reducible rfl)
        (try simp only [Act.put, lq1, lq2, lq3, lq4, lq5, lq6])
        refine wt (i := 16) (v := ?vt5q16x45) rfl ?ht5q16x45 ?rt5q16x45
        case ht5q16x45 => (intro w hSw; (try dsimp only at hSw); go_simp; try with_reducible rfl)
        (try simp only [Act.put, lq1, lq2, lq3, lq4, lq5, lq6])
        refine wt (i := 17) (v := ?vt5q17x48) rfl ?ht5q17x48 ?rt5q17x48
        case ht5q17x48 => (intro w hSw; (try dsimp only at hSw); go_simp; try with_reducible rfl)
        (try simp only [Act.put, lq1, lq2, lq3, lq4, lq5, lq6])
        refine wt (i := 18) (v := ?vt5q18x51) rfl ?ht5q18x51 ?rt5q18x51
        case ht5q18x51 => (intro w hSw; (try dsimp only at hSw); go_simp; try with_reducible rfl)
        (try simp only [Act.put, lq1, lq2, lq3, lq4, lq5, lq6])
        refine wt (i := 19) (v := ?vt5q19x54) rfl ?ht5q19x54 ?rt5q19x54
        case ht5q19x54 => (intro w hSw; (try dsimp only at hSw); go_simp; try with_reducible rfl)
        (try simp only [Act.put, lq1, lq2, lq3, lq4, lq5, lq6])
        refine wt (i := 20) (v := ?vt5q20x57) rfl ?ht5q20x57 ?rt5q20x57
        case ht5q20x57 => (intro w hSw; (try dsimp only at hSw); go_simp; try with_reducible rfl)
        (try simp only [Act.put, lq1, lq2, lq3, lq4, lq5, lq6])
        refine wt (i := 21) (v := ?vt5q21x60) rfl ?ht5q21x60 ?rt5q21x60
        case ht5q21x60 => (intro w hSw; (try dsimp only at hSw); go_simp; try with_reducible rfl)
        (try simp only [Act.put, lq1, lq2, lq3, lq4, lq5, lq6])
        refine wt (i := 22) (v := ?vt5q22x63) rfl ?ht5q22x63 ?rt5q22x63
        case ht5q22x63 => (intro w hSw; (try dsimp only at hSw); go_simp; try with_reducible rfl)
        (try simp only [Act.put, lq1, lq2, lq3, lq4, lq5, lq6])
        refine wt (i := 23) (v := ?vt5q23x66) rfl ?ht5q23x66 ?rt5q23x66
        case ht5q23x66 => (intro w hSw; (try dsimp only at hSw); go_simp; try with_reducible rfl)
        (try simp only [Act.put, lq1, lq2, lq3, lq4, lq5, lq6])
        refine wt (i := 24) (v := ?vt5q24x69) rfl ?ht5q24x69 ?rt5q24x69
        case ht5q24x69 => (intro w hSw; (try dsimp only at hSw); go_simp; try with_reducible rfl)
        (try simp only [Act.put, lq1, lq2, lq3, lq4, lq5, lq6])
        refine wt (i := 25) (v := ?vt5q25x72) rfl ?ht5q25x72 ?rt5q25x72
        case ht5q25x72 => (intro w hSw; (try dsimp only at hSw); go_simp; try with_reducible rfl)
        (try simp only [Act.put, lq1, lq2, lq3, lq4, lq5, lq6])
        refine wt (i := 26) (v := ?vt5q26x75) rfl ?ht5q26x75 ?rt5q26x75
        case ht5q26x75 => (intro w hSw; (try dsimp only at hSw); go_simp; try with_reducible rfl)
        (try simp only [Act.put, lq1, lq2, lq3, lq4, lq5, lq6])
        refine wpAnyH_done (by kernel_rfl) ?_ _
        go_wp2
        go_ret
        exact ⟨rfl, HC.drew⟩
      · obtain rfl := HF.out (fun hp => hp.elim (fun h => c0 h.1) (fun h => c3 h.2))
        rw [decide_eq_false c3] at g1
        subst c2
        clear c3 HT HF g0
        go_enter Tryd.func39, Tryd.ntmps39
        go_upto_region 1 with fail
        generalize w.alloc (.cells #[.int .i64 x.1, .int .i64 x.2] 52) = W1 at *
        refine wp_region_held_drew (S := (fun w' => (w'.cell? ⟨w.heap.size, 0, none⟩ = some (.int .i64 x.1) ∧ w'.cell? ⟨w.heap.size, 1, none⟩ = some (.int .i64 x.2)) ∧ (w'.cell? ⟨b, o, none⟩ = some (.int .i64 q.1) ∧ w'.cell? ⟨b, o + 1, none⟩ = some (.int .i64 q.2)) ∧ w'.cell? ⟨b, o + m1 * 2, none⟩ = some (.int .i64 p.1) ∧ w'.cell? ⟨b, o + m1 * 2 + 1, none⟩ = some (.int .i64 p.2))) (by kernel_rfl) ?_ (fun hHeld => ?_)
        · (try dsimp only); (with_reducible first | exact ⟨FA.c2, HQ.out _ HC⟩ | exact ⟨FA.drew.c2, HQ.out _ HC.drew⟩)
        refine wt (i := 0) (v := ?vt6q0x2) rfl ?ht6q0x2 ?rt6q0x2
        case ht6q0x2 => (intro w hSw; (try dsimp only at hSw); go_simp; try with_reducible rfl)
        (try simp only [Act.put, lq1, lq2, lq4, lq5, lq6])
        refine wt (i := 1) (v := ?vt6q1x5) rfl ?ht6q1x5 ?rt6q1x5
        case ht6q1x5 => (intro w hSw; (try dsimp only at hSw); go_simp; try with_reducible rfl)
        (try simp only [Act.put, lq1, lq2, lq3, lq4, lq5, lq6])
        refine wt (i := 2) (v := ?vt6q2x8) rfl ?ht6q2x8 ?rt6q2x8
        case ht6q2x8 => (intro w hSw; (try dsimp only at hSw); go_simp; try with_reducible rfl)
        (try simp only [Act.put, lq1, lq2, lq3, lq4, lq5, lq6])
        refine wu (i := 3) rfl ?_
        (try simp only [Act.put, lq1, lq2, lq3, lq4, lq5, lq6])
        refine wu (i := 4) rfl ?_
        (try simp only [Act.put, lq1, lq2, lq3, lq4, lq5, lq6])
        refine wu (i := 5) rfl ?_
        (try simp only [Act.put, lq1, lq2, lq3, lq4, lq5, lq6])
        refine wu (i := 6) rfl ?_
        (try simp only [Act.put, lq1, lq2, lq3, lq4, lq5, lq6])
        refine wu (i := 7) rfl ?_
        (try simp only [Act.put, lq1, lq2, lq3, lq4, lq5, lq6])
        refine wt (i := 8) (v := ?vt6q8x21) rfl ?ht6q8x21 ?rt6q8x21
        case ht6q8x21 => (intro w hSw; (try dsimp only at hSw); go_simp; try with_reducible rfl)
        (try simp only [Act.put, lq1, lq2, lq3, lq4, lq5, lq6])
        refine wt (i := 9) (v := ?vt6q9x24) rfl ?ht6q9x24 ?rt6q9x24
        case ht6q9x24 => (intro w hSw; (try dsimp only at hSw); go_simp; try with_reducible rfl)
        (try simp only [Act.put, lq1, lq2, lq3, lq4, lq5, lq6])
        refine wt (i := 10) (v := ?vt6q10x27) rfl ?ht6q10x27 ?rt6q10x27
        case ht6q10x27 => (intro w hSw; (try dsimp only at hSw); go_simp; try with_reducible rfl)
        (try simp only [Act.put, lq1, lq2, lq3, lq4, lq5, lq6])
        refine wt (i := 11) (v := ?vt6q11x30) rfl ?ht6q11x30 ?rt6q11x30
        case ht6q11x30 => (intro w hSw; (try dsimp only at hSw); go_simp; try with_reducible rfl)
        (try simp only [Act.put, lq1, lq2, lq3, lq4, lq5, lq6])
        refine wt (i := 12) (v := ?vt6q12x33) rfl ?ht6q12x33 ?rt6q12x33
        case ht6q12x33 => (intro w hSw; (try dsimp only at hSw); go_simp; try with_reducible rfl)
        (try simp only [Act.put, lq1, lq2, lq3, lq4, lq5, lq6])
        refine wt (i := 13) (v := ?vt6q13x36) rfl ?ht6q13x36 ?rt6q13x36
        case ht6q13x36 => (intro w hSw; (try dsimp only at hSw); go_simp; try with_reducible rfl)
        (try simp only [Act.put, lq1, lq2, lq3, lq4, lq5, lq6])
        refine wt (i := 14) (v := ?vt6q14x39) rfl ?ht6q14x39 ?rt6q14x39
        case ht6q14x39 => (intro w hSw; (try dsimp only at hSw); go_simp; try with_reducible rfl)
        (try simp only [Act.put, lq1, lq2, lq3, lq4, lq5, lq6])
        refine wt (i := 15) (v := ?vt6q15x42) rfl ?ht6q15x42 ?rt6q15x42
        case ht6q15x42 => (intro w hSw; (try dsimp only at hSw); go_simp; try with_reducible rfl)
        (try simp only [Act.put, lq1, lq2, lq3, lq4, lq5, lq6])
        refine wt (i := 16) (v := ?vt6q16x45) rfl ?ht6q16x45 ?rt6q16x45
        case ht6q16x45 => (intro w hSw; (try dsimp only at hSw); go_simp; try with_reducible rfl)
        (try simp only [Act.put, lq1, lq2, lq3, lq4, lq5, lq6])
        refine wt (i := 17) (v := ?vt6q17x48) rfl ?ht6q17x48 ?rt6q17x48
        case ht6q17x48 => (intro w hSw; (try dsimp only at hSw); go_simp; try with_reducible rfl)
        (try simp only [Act.put, lq1, lq2, lq3, lq4, lq5, lq6])
        refine wt (i := 18) (v := ?vt6q18x51) rfl ?ht6q18x51 ?rt6q18x51
        case ht6q18x51 => (intro w hSw; (try dsimp only at hSw); go_simp; try with_reducible rfl)
        (try simp only [Act.put, lq1, lq2, lq3, lq4, lq5, lq6])
        refine wt (i := 19) (v := ?vt6q19x54) rfl ?ht6q19x54 ?rt6q19x54
        case ht6q19x54 => (intro w hSw; (try dsimp only at hSw); go_simp; try with_reducible rfl)
        (try simp only [Act.put, lq1, lq2, lq3, lq4, lq5, lq6])
        refine wt (i := 20) (v := ?vt6q20x57) rfl ?ht6q20x57 ?rt6q20x57
        case ht6q20x57 => (intro w hSw; (try dsimp only at hSw); go_simp; try with_reducible rfl)
        (try simp only [Act.put, lq1, lq2, lq3, lq4, lq5, lq6])
        refine wt (i := 21) (v := ?vt6q21x60) rfl ?ht6q21x60 ?rt6q21x60
        case ht6q21x60 => (intro w hSw; (try dsimp only at hSw); go_simp; try with_reducible rfl)
        (try simp only [Act.put, lq1, lq2, lq3, lq4, lq5, lq6])
        refine wt (i := 22) (v := ?vt6q22x63) rfl ?ht6q22x63 ?rt6q22x63
        case ht6q22x63 => (intro w hSw; (try dsimp only at hSw); go_simp; try with_reducible rfl)
        (try simp only [Act.put, lq1, lq2, lq3, lq4, lq5, lq6])
        refine wt (i := 23) (v := ?vt6q23x66) rfl ?ht6q23x66 ?rt6q23x66
        case ht6q23x66 => (intro w hSw; (try dsimp only at hSw); go_simp; try with_reducible rfl)
        (try simp only [Act.put, lq1, lq2, lq3, lq4, lq5, lq6])
        refine wt (i := 24) (v := ?vt6q24x69) rfl ?ht6q24x69 ?rt6q24x69
        case ht6q24x69 => (intro w hSw; (try dsimp only at hSw); go_simp; try with_reducible rfl)
        (try simp only [Act.put, lq1, lq2, lq3, lq4, lq5, lq6])
        refine wt (i := 25) (v := ?vt6q25x72) rfl ?ht6q25x72 ?rt6q25x72
        case ht6q25x72 => (intro w hSw; (try dsimp only at hSw); go_simp; try with_reducible rfl)
        (try simp only [Act.put, lq1, lq2, lq3, lq4, lq5, lq6])
        refine wt (i := 26) (v := ?vt6q26x75) rfl ?ht6q26x75 ?rt6q26x75
        case ht6q26x75 => (intro w hSw; (try dsimp only at hSw); go_simp; try with_reducible rfl)
        (try simp only [Act.put, lq1, lq2, lq3, lq4, lq5, lq6])
        refine wpAnyH_done (by kernel_rfl) ?_ _
        go_wp2
        go_ret
        exact ⟨rfl, HC.drew⟩
    · obtain rfl := HF.out (fun hp => hp.elim (fun h => c0 h.1) (fun h => c2 h.1))
      have c4 : ¬ (k : Int) = (m : Int) := by omega
      have c6 : ((k : Int) == (m : Int)) = false := by simp; omega
      clear HT HF g0 g1
      go_enter Tryd.func39, Tryd.ntmps39
      go_upto_region 1 with fail
      generalize w.alloc (.cells #[.int .i64 x.1, .int .i64 x.2] 52) = W1 at *
      refine wp_region_held_drew (S := (fun w' => (w'.cell? ⟨w.heap.size, 0, none⟩ = some (.int .i64 x.1) ∧ w'.cell? ⟨w.heap.size, 1, none⟩ = some (.int .i64 x.2)) ∧ (w'.cell? ⟨b, o, none⟩ = some (.int .i64 q.1) ∧ w'.cell? ⟨b, o + 1, none⟩ = some (.int .i64 q.2)) ∧ w'.cell? ⟨b, o + m1 * 2, none⟩ = some (.int .i64 p.1) ∧ w'.cell? ⟨b, o + m1 * 2 + 1, none⟩ = some (.int .i64 p.2))) (by kernel_rfl) ?_ (fun hHeld => ?_)
      · (try dsimp only); (with_reducible first | exact ⟨FA.c2, HQ.out _ HC⟩ | exact ⟨FA.drew.c2, HQ.out _ HC.drew⟩)
      refine wt (i := 0) (v := ?vt7q0x2) rfl ?ht7q0x2 ?rt7q0x2
      case ht7q0x2 => (intro w hSw; (try dsimp only at hSw); go_simp; try with_reducible rfl)
      (try simp only [Act.put, lq1, lq2, lq4, lq5, lq6])
      refine wt (i := 1) (v := ?vt7q1x5) rfl ?ht7q1x5 ?rt7q1x5
      case ht7q1x5 => (intro w hSw; (try dsimp only at hSw); go_simp; try with_reducible rfl)
      (try simp only [Act.put, lq1, lq2, lq3, lq4, lq5, lq6])
      refine wt (i := 2) (v := ?vt7q2x8) rfl ?ht7q2x8 ?rt7q2x8
      case ht7q2x8 => (intro w hSw; (try dsimp only at hSw); go_simp; try with_reducible rfl)
      (try simp only [Act.put, lq1, lq2, lq3, lq4, lq5, lq6])
      refine wu (i := 3) rfl ?_
      (try simp only [Act.put, lq1, lq2, lq3, lq4, lq5, lq6])
      refine wu (i := 4) rfl ?_
      (try simp only [Act.put, lq1, lq2, lq3, lq4, lq5, lq6])
      refine wu (i := 5) rfl ?_
      (try simp only [Act.put, lq1, lq2, lq3, lq4, lq5, lq6])
      refine wu (i := 6) rfl ?_
      (try simp only [Act.put, lq1, lq2, lq3, lq4, lq5, lq6])
      refine wu (i := 7) rfl ?_
      (try simp only [Act.put, lq1, lq2, lq3, lq4, lq5, lq6])
      refine wt (i := 8) (v := ?vt7q8x21) rfl ?ht7q8x21 ?rt7q8x21
      case ht7q8x21 => (intro w hSw; (try dsimp only at hSw); go_simp; try with_reducible rfl)
      (try simp only [Act.put, lq1, lq2, lq3, lq4, lq5, lq6])
      refine wt (i := 9) (v := ?vt7q9x24) rfl ?ht7q9x24 ?rt7q9x24
      case ht7q9x24 => (intro w hSw; (try dsimp only at hSw); go_simp; try with_reducible rfl)
      (try simp only [Act.put, lq1, lq2, lq3, lq4, lq5, lq6])
      refine wt (i := 10) (v := ?vt7q10x27) rfl ?ht7q10x27 ?rt7q10x27
      case ht7q10x27 => (intro w hSw; (try dsimp only at hSw); go_simp; try with_reducible rfl)
      (try simp only [Act.put, lq1, lq2, lq3, lq4, lq5, lq6])
      refine wt (i := 11) (v := ?vt7q11x30) rfl ?ht7q11x30 ?rt7q11x30
      case ht7q11x30 => (intro w hSw; (try dsimp only at hSw); go_simp; try with_reducible rfl)
      (try simp only [Act.put, lq1, lq2, lq3, lq4, lq5, lq6])
      refine wt (i := 12) (v := ?vt7q12x33) rfl ?ht7q12x33 ?rt7q12x33
      case ht7q12x33 => (intro w hSw; (try dsimp only at hSw); go_simp; try with_reducible rfl)
      (try simp only [Act.put, lq1, lq2, lq3, lq4, lq5, lq6])
      refine wt (i := 13) (v := ?vt7q13x36) rfl ?ht7q13x36 ?rt7q13x36
      case ht7q13x36 => (intro w hSw; (try dsimp only at hSw); go_simp; try with_reducible rfl)
      (try simp only [Act.put, lq1, lq2, lq3, lq4, lq5, lq6])
      refine wt (i := 14) (v := ?vt7q14x39) rfl ?ht7q14x39 ?rt7q14x39
      case ht7q14x39 => (intro w hSw; (try dsimp only at hSw); go_simp; try with_reducible rfl)
      (try simp only [Act.put, lq1, lq2, lq3, lq4, lq5, lq6])
      refine wt (i := 15) (v := ?vt7q15x42) rfl ?ht7q15x42 ?rt7q15x42
      case ht7q15x42 => (intro w hSw; (try dsimp only at hSw); go_simp; try with_reducible rfl)
      (try simp only [Act.put, lq1, lq2, lq3, lq4, lq5, lq6])
      refine wu (i := 16) rfl ?_
      (try simp only [Act.put, lq1, lq2, lq3, lq4, lq5, lq6])
      refine wu (i := 17) rfl ?_
      (try simp only [Act.put, lq1, lq2, lq3, lq4, lq5, lq6])
      refine wu (i := 18) rfl ?_
      (try simp only [Act.put, lq1, lq2, lq3, lq4, lq5, lq6])
      refine wu (i := 19) rfl ?_
      (try simp only [Act.put, lq1, lq2, lq3, lq4, lq5, lq6])
      refine wu (i := 20) rfl ?_
      (try simp only [Act.put, lq1, lq2, lq3, lq4, lq5, lq6])
      refine wu (i := 21) rfl ?_
      (try simp only [Act.put, lq1, lq2, lq3, lq4, lq5, lq6])
      refine wu (i := 22) rfl ?_
      (try simp only [Act.put, lq1, lq2, lq3, lq4, lq5, lq6])
      refine wu (i := 23) rfl ?_
      (try simp only [Act.put, lq1, lq2, lq3, lq4, lq5, lq6])
      refine wt (i := 24) (v := ?vt7q24x61) rfl ?ht7q24x61 ?rt7q24x61
      case ht7q24x61 => (intro w hSw; (try dsimp only at hSw); go_simp; try with_reducible rfl)
      (try simp only [Act.put, lq1, lq2, lq3, lq4, lq5, lq6])
      refine wt (i := 25) (v := ?vt7q25x64) rfl ?ht7q25x64 ?rt7q25x64
      case ht7q25x64 => (intro w hSw; (try dsimp only at hSw); go_simp; try with_reducible rfl)
      (try simp only [Act.put, lq1, lq2, lq3, lq4, lq5, lq6])
      refine wt (i := 26) (v := ?vt7q26x67) rfl ?ht7q26x67 ?rt7q26x67
      case ht7q26x67 => (intro w hSw; (try dsimp only at hSw); go_simp; try with_reducible rfl)
      (try simp only [Act.put, lq1, lq2, lq3, lq4, lq5, lq6])
      refine wpAnyH_done (by kernel_rfl) ?_ _
      go_wp2
      go_ret
      exact ⟨rfl, HC.drew⟩
end Go.Proofs.YtnadgoomkaldkaaDoor
