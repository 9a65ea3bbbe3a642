/-
  shape.told, shape.isArc: an arc that can stand in a map.
-/
import Derived.Test.YtnadgoomkaldkaaDoorQTk
import Derived.Test.YtnadgoomkaldkaaDoorQSfP
import Derived.Test.YtnadgoomkaldkaaDoorQJ5
namespace Go.Proofs.YtnadgoomkaldkaaDoor
open Go.RowKit
attribute [local go_sem ↓] Go.wp_at_zero Go.wp_at_succ

/-- The number by which a way is known outside. -/
def tdI (k : Nat) : Int := if k % 2 = 0 then (k / 2 : Nat) + 1 else -((k / 2 : Nat) + 1)
set_option maxHeartbeats 1000000 in
theorem told_any {k : Nat} (hk : k ≤ 100000) (w : World) : Calls Tryd.prog 46 #[.int .i64 k] w fun e w' => e = .returned (.int .i64 (tdI k)) ∧ w' = w := by
  have e1 : (k : Int).tmod 2 = ((k % 2 : Nat) : Int) := by rw [Int.tmod_eq_emod_of_nonneg (by omega)]; omega
  have e2 : (k : Int).tdiv 2 = ((k / 2 : Nat) : Int) := by rw [Int.tdiv_eq_ediv_of_nonneg (by omega)]; omega
  have e3 : IntKind.i64.wrap ((k / 2 : Nat) : Int) = ((k / 2 : Nat) : Int) := wr_in (by omega) (by omega)
  have e4 : IntKind.i64.wrap (((k / 2 : Nat) : Int) + 1) = ((k / 2 : Nat) : Int) + 1 := wr_in (by omega) (by omega)
  have e5 : IntKind.i64.wrap (-(((k / 2 : Nat) : Int) + 1)) = -(((k / 2 : Nat) : Int) + 1) := wr_in (by omega) (by omega)
  have e6 : IntKind.i64.wrap ((k % 2 : Nat) : Int) = ((k % 2 : Nat) : Int) := wr_in (by omega) (by omega)
  by_cases c : k % 2 = 0
  · have hr : tdI k = ((k / 2 : Nat) : Int) + 1 := by unfold tdI; rw [if_pos c]
    rw [hr]
    rw [c] at e1 e6
    generalize k / 2 = h at *
    clear hr c hk
    go_enter Tryd.func46, Tryd.ntmps46
    go_wp2
    go_ret
    exact ⟨rfl, rfl⟩
  · have hr : tdI k = -(((k / 2 : Nat) : Int) + 1) := by unfold tdI; rw [if_neg c]
    rw [hr]
    rw [show k % 2 = 1 by omega] at e1 e6
    generalize k / 2 = h at *
    clear hr c hk
    go_enter Tryd.func46, Tryd.ntmps46
    go_wp2
    go_ret
    exact ⟨rfl, rfl⟩
/-- Can the points stand in a map? -/
def arP (l : List Sp) : Prop := 2 ≤ l.length ∧ stk l l.length ∧ (sx l 0 = sx l (l.length - 1) → 4 ≤ l.length)
instance (l : List Sp) : Decidable (arP l) := by unfold arP; exact inferInstance
set_option maxRecDepth 20000 in
set_option maxHeartbeats 4000000 in
theorem isArc_any {ad : Option Addr} {b o cap : Nat} {l : List Sp} (ll : l.length ≤ 5000) (w : World) (h : SSl w ad b o cap l) : Calls Tryd.prog 24 #[.slice ad l.length cap] w fun e w' => e = .returned (.bool (decide (arP l))) ∧ Gr w w' := by
  generalize hr : decide (arP l) = r
  have HT : Hid (arP l → r = true) := fun hp => by rw [← hr]; exact decide_eq_true hp
  have HF : Hid (¬ arP l → r = false) := fun hp => by rw [← hr]; exact decide_eq_false hp
  clear hr
  have HP := hidb (fun W (hW : Gr w W) => steps_any ll W (h.gr hW))
  have HC := Gr.refl w
  by_cases c2 : l.length < 2
  · obtain rfl := HF.out (fun hp => by have := hp.1; omega)
    have c2' : ¬ (2 : Int) ≤ (l.length : Int) := by omega
    clear c2 HT HF HP h
    generalize l.length = n at *
    go_enter Tryd.func24, Tryd.ntmps24
    go_upto_region 1 with fail
    refine wp_region_held_drew (S := (fun _ => True)) (by kernel_rfl) ?_ (fun hHeld => ?_)
    · (try dsimp only); all_goals trivial
    refine wt (i := 0) (v := ?vt1q0x2) rfl ?ht1q0x2 ?rt1q0x2
    case ht1q0x2 => (intro w hSw; (try dsimp only at hSw); go_simp; try with_reducible rfl)
    (try simp only [Act.put, lq1, lq2, lq4, lq5, lq6])
    refine wt (i := 1) (v := ?vt1q1x5) rfl ?ht1q1x5 ?rt1q1x5
    case ht1q1x5 => (intro w hSw; (try dsimp only at hSw); go_simp; try with_reducible rfl)
    (try simp only [Act.put, lq1, lq2, lq3, lq4, lq5, lq6])
    refine wt (i := 2) (v := ?vt1q2x8) rfl ?ht1q2x8 ?rt1q2x8
    case ht1q2x8 => (intro w hSw; (try dsimp only at hSw); go_simp; try with_reducible rfl)
    (try simp only [Act.put, lq1, lq2, lq3, lq4, lq5, lq6])
    refine wt (i := 3) (v := ?vt1q3x11) rfl ?ht1q3x11 ?rt1q3x11
    case ht1q3x11 => (intro w hSw; (try dsimp only at hSw); go_simp; try with_reducible rfl)
    (try simp only [Act.put, lq1, lq2, lq3, lq4, lq5, lq6])
    refine wu (i := 4) rfl ?_
    (try simp only [Act.put, lq1, lq2, lq3, lq4, lq5, lq6])
    refine wu (i := 5) rfl ?_
    (try simp only [Act.put, lq1, lq2, lq3, lq4, lq5, lq6])
    refine wt (i := 6) (v := ?vt1q6x18) rfl ?ht1q6x18 ?rt1q6x18
    case ht1q6x18 => (intro w hSw; (try dsimp only at hSw); go_simp; try with_reducible rfl)
    (try simp only [Act.put, lq1, lq2, lq3, lq4, lq5, lq6])
    refine wt (i := 7) (v := ?vt1q7x21) rfl ?ht1q7x21 ?rt1q7x21
    case ht1q7x21 => (intro w hSw; (try dsimp only at hSw); go_simp; try with_reducible rfl)
    (try simp only [Act.put, lq1, lq2, lq3, lq4, lq5, lq6])
    refine wu (i := 8) rfl ?_
    (try simp only [Act.put, lq1, lq2, lq3, lq4, lq5, lq6])
    refine wu (i := 9) rfl ?_
    (try simp only [Act.put, lq1, lq2, lq3, lq4, lq5, lq6])
    refine wu (i := 10) rfl ?_
    (try simp only [Act.put, lq1, lq2, lq3, lq4, lq5, lq6])
    refine wu (i := 11) rfl ?_
    (try simp only [Act.put, lq1, lq2, lq3, lq4, lq5, lq6])
    refine wu (i := 12) rfl ?_
    (try simp only [Act.put, lq1, lq2, lq3, lq4, lq5, lq6])
    refine wu (i := 13) rfl ?_
    (try simp only [Act.put, lq1, lq2, lq3, lq4, lq5, lq6])
    refine wu (i := 14) rfl ?_
    (try simp only [Act.put, lq1, lq2, lq3, lq4, lq5, lq6])
    refine wu (i := 15) rfl ?_
    (try simp only [Act.put, lq1, lq2, lq3, lq4, lq5, lq6])
    refine wu (i := 16) rfl ?_
    (try simp only [Act.put, lq1, lq2, lq3, lq4, lq5, lq6])
    refine wu (i := 17) rfl ?_
    (try simp only [Act.put, lq1, lq2, lq3, lq4, lq5, lq6])
    refine wu (i := 18) rfl ?_
    (try simp only [Act.put, lq1, lq2, lq3, lq4, lq5, lq6])
    refine wu (i := 19) rfl ?_
    (try simp only [Act.put, lq1, lq2, lq3, lq4, lq5, lq6])
    refine wu (i := 20) rfl ?_
    (try simp only [Act.put, lq1, lq2, lq3, lq4, lq5, lq6])
    refine wu (i := 21) rfl ?_
    (try simp only [Act.put, lq1, lq2, lq3, lq4, lq5, lq6])
    refine wu (i := 22) rfl ?_
    (try simp only [Act.put, lq1, lq2, lq3, lq4, lq5, lq6])
    refine wt (i := 23) (v := ?vt1q23x54) rfl ?ht1q23x54 ?rt1q23x54
    case ht1q23x54 => (intro w hSw; (try dsimp only at hSw); go_simp; try with_reducible rfl)
    (try simp only [Act.put, lq1, lq2, lq3, lq4, lq5, lq6])
    refine wt (i := 24) (v := ?vt1q24x57) rfl ?ht1q24x57 ?rt1q24x57
    case ht1q24x57 => (intro w hSw; (try dsimp only at hSw); go_simp; try with_reducible rfl)
    (try simp only [Act.put, lq1, lq2, lq3, lq4, lq5, lq6])
    refine wpAnyH_done (by kernel_rfl) ?_ _
    go_wp2
    go_ret
    exact ⟨rfl, HC.drew⟩
  · have c2' : (2 : Int) ≤ (l.length : Int) := by omega
    by_cases c3 : stk l l.length
    · rw [decide_eq_true c3] at HP
      obtain ⟨m, hm⟩ : ∃ m, l.length = m + 1 := ⟨l.length - 1, by omega⟩
      have HQ := hidb (fun W (hW : Gr w W) => And.intro (by have := ((h.gr hW).row 0 (by omega)).1; rw [Nat.zero_mul, Nat.add_zero] at this; exact this) ((h.gr hW).row m (by omega)).1)
      have ix := h.ix m (by omega)
      have ix0 := h.ix 0 (by omega)
      rw [Nat.zero_mul, Nat.add_zero] at ix0
      push_cast at ix0
      have HT2 : Hid ((sx l 0 = sx l m → 4 ≤ m + 1) → r = true) := fun hp => HT.out ⟨by omega, c3, by rw [hm]; exact hp⟩
      have HF2 : Hid (¬ (sx l 0 = sx l m → 4 ≤ m + 1) → r = false) := fun hp => HF.out (fun hx => hp (by have := hx.2.2; rw [hm] at this; exact this))
      rw [hm] at c2' HP ix ix0 ll ⊢
      have c2'' : (2 : Int) ≤ (m : Int) + 1 := by omega
      have e0 : IntKind.i64.wrap (m : Int) = (m : Int) := wr_in (by omega) (by omega)
      have heq := sp_ne (sx l 0) (sx l m)
      generalize sx l m = p at *
      generalize sx l 0 = q at *
      clear c2 c3 hm h HT HF
      by_cases c4 : q = p
      · rw [decide_eq_true c4] at heq
        by_cases c5 : 4 ≤ m + 1
        · obtain rfl := HT2.out (fun _ => c5)
          have c5' : (4 : Int) ≤ ((m + 1 : Nat) : Int) := by omega
          have c5'' : (4 : Int) ≤ (m : Int) + 1 := by omega
          clear c4 c5 HT2 HF2
          go_enter Tryd.func24, Tryd.ntmps24
          go_upto_region 1 with fail
          refine wp_region_held_drew (S := (fun w' => (w'.cell? ⟨b, o, none⟩ = some (.int .i64 q.1) ∧ w'.cell? ⟨b, o + 1, none⟩ = some (.int .i64 q.2)) ∧ w'.cell? ⟨b, o + m * 2, none⟩ = some (.int .i64 p.1) ∧ w'.cell? ⟨b, o + m * 2 + 1, none⟩ = some (.int .i64 p.2))) (by kernel_rfl) ?_ (fun hHeld => ?_)
          · (try dsimp only); (with_reducible first | exact HQ.out _ HC | exact HQ.out _ HC.drew)
          refine wt (i := 0) (v := ?vt4q0x2) rfl ?ht4q0x2 ?rt4q0x2
          case ht4q0x2 => (intro w hSw; (try dsimp only at hSw); go_simp; try with_reducible rfl)
          (try simp only [Act.put, lq1, lq2, lq4, lq5, lq6])
          refine wt (i := 1) (v := ?vt4q1x5) rfl ?ht4q1x5 ?rt4q1x5
          case ht4q1x5 => (intro w hSw; (try dsimp only at hSw); go_simp; try with_reducible rfl)
          (try simp only [Act.put, lq1, lq2, lq3, lq4, lq5, lq6])
          refine wt (i := 2) (v := ?vt4q2x8) rfl ?ht4q2x8 ?rt4q2x8
          case ht4q2x8 => (intro w hSw; (try dsimp only at hSw); go_simp; try with_reducible rfl)
          (try simp only [Act.put, lq1, lq2, lq3, lq4, lq5, lq6])
          refine wt (i := 3) (v := ?vt4q3x11) rfl ?ht4q3x11 ?rt4q3x11
          case ht4q3x11 => (intro w hSw; (try dsimp only at hSw); go_simp; try with_reducible rfl)
          (try simp only [Act.put, lq1, lq2, lq3, lq4, lq5, lq6])
          refine wt (i := 4) (v := ?vt4q4x14) rfl ?ht4q4x14 ?rt4q4x14
          case ht4q4x14 => (intro w hSw; (try dsimp only at hSw); go_simp; try with_reducible rfl)
          (try simp only [Act.put, lq1, lq2, lq3, lq4, lq5, lq6])
          refine wpAnyH_ready (rs := [5]) (by kernel_rfl) (by simp) ?_
          refine AllReadyH.cons rfl (fun K hK => ?_) AllReadyH.nil
          go_simp
          go_wp2_with ((go_at_call 42; refine (HP.out _ (by with_reducible first | exact HC | exact HC.drew)).mono ?_; rintro e w1 ⟨rfl, hB⟩))
          replace HC := Gr.step (by with_reducible first | exact HC | exact HC.drew) hB.out
          clear hB
          refine hK.out _ _ ?_ (fun hHeld => ?_)
          · (try dsimp only); (with_reducible first | exact HQ.out _ HC | exact HQ.out _ HC.drew)
          clear hK K
          refine wt (i := 6) (v := ?vt4q6x26) rfl ?ht4q6x26 ?rt4q6x26
          case ht4q6x26 => (intro w hSw; (try dsimp only at hSw); go_simp; try with_reducible rfl)
          (try simp only [Act.put, lq1, lq2, lq3, lq4, lq5, lq6])
          refine wt (i := 7) (v := ?vt4q7x29) rfl ?ht4q7x29 ?rt4q7x29
          case ht4q7x29 => (intro w hSw; (try dsimp only at hSw); go_simp; try with_reducible rfl)
          (try simp only [Act.put, lq1, lq2, lq3, lq4, lq5, lq6])
          refine wt (i := 8) (v := ?vt4q8x32) rfl ?ht4q8x32 ?rt4q8x32
          case ht4q8x32 => (intro w hSw; (try dsimp only at hSw); go_simp; try with_reducible rfl)
          (try simp only [Act.put, lq1, lq2, lq3, lq4, lq5, lq6])
          refine wt (i := 9) (v := ?vt4q9x35) rfl ?ht4q9x35 ?rt4q9x35
          case ht4q9x35 => (intro w hSw; (try dsimp only at hSw); go_simp; try with_reducible rfl)
          (try simp only [Act.put, lq1, lq2, lq3, lq4, lq5, lq6])
          refine wt (i := 10) (v := ?vt4q10x38) rfl ?ht4q10x38 ?rt4q10x38
          case ht4q10x38 => (intro w hSw; (try dsimp only at hSw); go_simp; try with_reducible rfl)
          (try simp only [Act.put, lq1, lq2, lq3, lq4, lq5, lq6])
          refine wt (i := 11) (v := ?vt4q11x41) rfl ?ht4q11x41 ?rt4q11x41
          case ht4q11x41 => (intro w hSw; (try dsimp only at hSw); go_simp; try with_reducible rfl)
          (try simp only [Act.put, lq1, lq2, lq3, lq4, lq5, lq6])
          refine wt (i := 12) (v := ?vt4q12x44) rfl ?ht4q12x44 ?rt4q12x44
          case ht4q12x44 => (intro w hSw; (try dsimp only at hSw); go_simp; try with_reducible rfl)
          (try simp only [Act.put, lq1, lq2, lq3, lq4, lq5, lq6])
          refine wt (i := 13) (v := ?vt4q13x47) rfl ?ht4q13x47 ?rt4q13x47
          case ht4q13x47 => (intro w hSw; (try dsimp only at hSw); go_simp; try with_reducible rfl)
          (try simp only [Act.put, lq1, lq2, lq3, lq4, lq5, lq6])
          refine wt (i := 14) (v := ?vt4q14x50) rfl ?ht4q14x50 ?rt4q14x50
          case ht4q14x50 => (intro w hSw; (try dsimp only at hSw); go_simp; try with_reducible rfl)
          (try simp only [Act.put, lq1, lq2, lq3, lq4, lq5, lq6])
          refine wt (i := 15) (v := ?vt4q15x53) rfl ?ht4q15x53 ?rt4q15x53
          case ht4q15x53 => (intro w hSw; (try dsimp only at hSw); go_simp; try with_reducible rfl)
          (try simp only [Act.put, lq1, lq2, lq3, lq4, lq5, lq6])
          refine wt (i := 16) (v := ?vt4q16x56) rfl ?ht4q16x56 ?rt4q16x56
          case ht4q16x56 => (intro w hSw; (try dsimp only at hSw); go_simp; try with_reducible rfl)
          (try simp only [Act.put, lq1, lq2, lq3, lq4, lq5, lq6])
          refine wt (i := 17) (v := ?vt4q17x59) rfl ?ht4q17x59 ?rt4q17x59
          case ht4q17x59 => (intro w hSw; (try dsimp only at hSw); go_simp; try with_reducible rfl)
          (try simp only [Act.put, lq1, lq2, lq3, lq4, lq5, lq6])
          refine wt (i := 18) (v := ?vt4q18x62) rfl ?ht4q18x62 ?rt4q18x62
          case ht4q18x62 => (intro w hSw; (try dsimp only at hSw); go_simp; try with_reducible rfl)
          (try simp only [Act.put, lq1, lq2, lq3, lq4, lq5, lq6])
          refine wt (i := 19) (v := ?vt4q19x65) rfl ?ht4q19x65 ?rt4q19x65
          case ht4q19x65 => (intro w hSw; (try dsimp only at hSw); go_simp; try with_reducible rfl)
          (try simp only [Act.put, lq1, lq2, lq3, lq4, lq5, lq6])
          refine wt (i := 20) (v := ?vt4q20x68) rfl ?ht4q20x68 ?rt4q20x68
          case ht4q20x68 => (intro w hSw; (try dsimp only at hSw); go_simp; try with_reducible rfl)
          (try simp only [Act.put, lq1, lq2, lq3, lq4, lq5, lq6])
          refine wt (i := 21) (v := ?vt4q21x71) rfl ?ht4q21x71 ?rt4q21x71
          case ht4q21x71 => (intro w hSw; (try dsimp only at hSw); go_simp; try with_reducible rfl)
          (try simp only [Act.put, lq1, lq2, lq3, lq4, lq5, lq6])
          refine wt (i := 22) (v := ?vt4q22x74) rfl ?ht4q22x74 ?rt4q22x74
          case ht4q22x74 => (intro w hSw; (try dsimp only at hSw); go_simp; try with_reducible rfl)
          (try simp only [Act.put, lq1, lq2, lq3, lq4, lq5, lq6])
          refine wt (i := 23) (v := ?vt4q23x77) rfl ?ht4q23x77 ?rt4q23x77
          case ht4q23x77 => (intro w hSw; (try dsimp only at hSw); go_simp; try with_reducible rfl)
          (try simp only [Act.put, lq1, lq2, lq3, lq4, lq5, lq6])
          refine wt (i := 24) (v := ?vt4q24x80) rfl ?ht4q24x80 ?rt4q24x80
          case ht4q24x80 => (intro w hSw; (try dsimp only at hSw); go_simp; try with_reducible rfl)
          (try simp only [Act.put, lq1, lq2, lq3, lq4, lq5, lq6])
          refine wpAnyH_done (by kernel_rfl) ?_ _
          go_wp2
          go_ret
          exact ⟨by first | rfl | exact congrArg (fun x => Ending.returned (.bool x)) (decide_eq_true c5''), HC⟩
        · obtain rfl := HF2.out (fun hx => c5 (hx c4))
          have c5' : ¬ (4 : Int) ≤ ((m + 1 : Nat) : Int) := by omega
          have c5'' : ¬ (4 : Int) ≤ (m : Int) + 1 := by omega
          clear c4 c5 HT2 HF2
          go_enter Tryd.func24, Tryd.ntmps24
          go_upto_region 1 with fail
          refine wp_region_held_drew (S := (fun w' => (w'.cell? ⟨b, o, none⟩ = some (.int .i64 q.1) ∧ w'.cell? ⟨b, o + 1, none⟩ = some (.int .i64 q.2)) ∧ w'.cell? ⟨b, o + m * 2, none⟩ = some (.int .i64 p.1) ∧ w'.cell? ⟨b, o + m * 2 + 1, none⟩ = some (.int .i64 p.2))) (by kernel_rfl) ?_ (fun hHeld => ?_)
          · (try dsimp only); (with_reducible first | exact HQ.out _ HC | exact HQ.out _ HC.drew)
          refine wt (i := 0) (v := ?vt5q0x2) rfl ?ht5q0x2 ?rt5q0x2
          case ht5q0x2 => (intro w hSw; (try dsimp only at hSw); go_simp; try with_reducible rfl)
          (try simp only [Act.put, lq1, lq2, lq4, lq5, lq6])
          refine wt (i := 1) (v := ?vt5q1x5) rfl ?ht5q1x5 ?rt5q1x5
          case ht5q1x5 => (intro w hSw; (try dsimp only at hSw); go_simp; try with_reducible rfl)
          (try simp only [Act.put, lq1, lq2, lq3, lq4, lq5, lq6])
          refine wt (i := 2) (v := ?vt5q2x8) rfl ?ht5q2x8 ?rt5q2x8
          case ht5q2x8 => (intro w hSw; (try dsimp only at hSw); go_simp; try with_reducible rfl)
          (try simp only [Act.put, lq1, lq2, lq3, lq4, lq5, lq6])
          refine wt (i := 3) (v := ?vt5q3x11) rfl ?ht5q3x11 ?rt5q3x11
          case ht5q3x11 => (intro w hSw; (try dsimp only at hSw); go_simp; try with_reducible rfl)
          (try simp only [Act.put, lq1, lq2, lq3, lq4, lq5, lq6])
          refine wt (i := 4) (v := ?vt5q4x14) rfl ?ht5q4x14 ?rt5q4x14
          case ht5q4x14 => (intro w hSw; (try dsimp only at hSw); go_simp; try with_reducible rfl)
          (try simp only [Act.put, lq1, lq2, lq3, lq4, lq5, lq6])
          refine wpAnyH_ready (rs := [5]) (by kernel_rfl) (by simp) ?_
          refine AllReadyH.cons rfl (fun K hK => ?_) AllReadyH.nil
          go_simp
          go_wp2_with ((go_at_call 42; refine (HP.out _ (by with_reducible first | exact HC | exact HC.drew)).mono ?_; rintro e w1 ⟨rfl, hB⟩))
          replace HC := Gr.step (by with_reducible first | exact HC | exact HC.drew) hB.out
          clear hB
          refine hK.out _ _ ?_ (fun hHeld => ?_)
          · (try dsimp only); (with_reducible first | exact HQ.out _ HC | exact HQ.out _ HC.drew)
          clear hK K
          refine wt (i := 6) (v := ?vt5q6x26) rfl ?ht5q6x26 ?rt5q6x26
          case ht5q6x26 => (intro w hSw; (try dsimp only at hSw); go_simp; try with_reducible rfl)
          (try simp only [Act.put, lq1, lq2, lq3, lq4, lq5, lq6])
          refine wt (i := 7) (v := ?vt5q7x29) rfl ?ht5q7x29 ?rt5q7x29
          case ht5q7x29 => (intro w hSw; (try dsimp only at hSw); go_simp; try with_reducible rfl)
          (try simp only [Act.put, lq1, lq2, lq3, lq4, lq5, lq6])
          refine wt (i := 8) (v := ?vt5q8x32) rfl ?ht5q8x32 ?rt5q8x32
          case ht5q8x32 => (intro w hSw; (try dsimp only at hSw); go_simp; try with_reducible rfl)
          (try simp only [Act.put, lq1, lq2, lq3, lq4, lq5, lq6])
          refine wt (i := 9) (v := ?vt5q9x35) rfl ?ht5q9x35 ?rt5q9x35
          case ht5q9x35 => (intro w hSw; (try dsimp only at hSw); go_simp; try with_reducible rfl)
          (try simp only [Act.put, lq1, lq2, lq3, lq4, lq5, lq6])
          refine wt (i := 10) (v := ?vt5q10x38) rfl ?ht5q10x38 ?rt5q10x38
          case ht5q10x38 => (intro w hSw; (try dsimp only at hSw); go_simp; try with_reducible rfl)
          (try simp only [Act.put, lq1, lq2, lq3, lq4, lq5, lq6])
          refine wt (i := 11) (v := ?vt5q11x41) rfl ?ht5q11x41 ?rt5q11x41
          case ht5q11x41 => (intro w hSw; (try dsimp only at hSw); go_simp; try with_reducible rfl)
          (try simp only [Act.put, lq1, lq2, lq3, lq4, lq5, lq6])
          refine wt (i := 12) (v := ?vt5q12x44) rfl ?ht5q12x44 ?rt5q12x44
          case ht5q12x44 => (intro w hSw; (try dsimp only at hSw); go_simp; try with_reducible rfl)
          (try simp only [Act.put, lq1, lq2, lq3, lq4, lq5, lq6])
          refine wt (i := 13) (v := ?vt5q13x47) rfl ?ht5q13x47 ?rt5q13x47
          case ht5q13x47 => (intro w hSw; (try dsimp only at hSw); go_simp; try with_reducible rfl)
          (try simp only [Act.put, lq1, lq2, lq3, lq4, lq5, lq6])
          refine wt (i := 14) (v := ?vt5q14x50) rfl ?ht5q14x50 ?rt5q14x50
          case ht5q14x50 => (intro w hSw; (try dsimp only at hSw); go_simp; try with_reducible rfl)
          (try simp only [Act.put, lq1, lq2, lq3, lq4, lq5, lq6])
          refine wt (i := 15) (v := ?vt5q15x53) rfl ?ht5q15x53 ?rt5q15x53
          case ht5q15x53 => (intro w hSw; (try dsimp only at hSw); go_simp; try with_reducible rfl)
          (try simp only [Act.put, lq1, lq2, lq3, lq4, lq5, lq6])
          refine wt (i := 16) (v := ?vt5q16x56) rfl ?ht5q16x56 ?rt5q16x56
          case ht5q16x56 => (intro w hSw; (try dsimp only at hSw); go_simp; try with_reducible rfl)
          (try simp only [Act.put, lq1, lq2, lq3, lq4, lq5, lq6])
          refine wt (i := 17) (v := ?vt5q17x59) rfl ?ht5q17x59 ?rt5q17x59
          case ht5q17x59 => (intro w hSw; (try dsimp only at hSw); go_simp; try with_reducible rfl)
          (try simp only [Act.put, lq1, lq2, lq3, lq4, lq5, lq6])
          refine wt (i := 18) (v := ?vt5q18x62) rfl ?ht5q18x62 ?rt5q18x62
          case ht5q18x62 => (intro w hSw; (try dsimp only at hSw); go_simp; try with_reducible rfl)
          (try simp only [Act.put, lq1, lq2, lq3, lq4, lq5, lq6])
          refine wt (i := 19) (v := ?vt5q19x65) rfl ?ht5q19x65 ?rt5q19x65
          case ht5q19x65 => (intro w hSw; (try dsimp only at hSw); go_simp; try with_reducible rfl)
          (try simp only [Act.put, lq1, lq2, lq3, lq4, lq5, lq6])
          refine wt (i := 20) (v := ?vt5q20x68) rfl ?ht5q20x68 ?rt5q20x68
          case ht5q20x68 => (intro w hSw; (try dsimp only at hSw); go_simp; try with_reducible rfl)
          (try simp only [Act.put, lq1, lq2, lq3, lq4, lq5, lq6])
          refine wt (i := 21) (v := ?vt5q21x71) rfl ?ht5q21x71 ?rt5q21x71
          case ht5q21x71 => (intro w hSw; (try dsimp only at hSw); go_simp; try with_reducible rfl)
          (try simp only [Act.put, lq1, lq2, lq3, lq4, lq5, lq6])
          refine wt (i := 22) (v := ?vt5q22x74) rfl ?ht5q22x74 ?rt5q22x74
          case ht5q22x74 => (intro w hSw; (try dsimp only at hSw); go_simp; try with_reducible rfl)
          (try simp only [Act.put, lq1, lq2, lq3, lq4, lq5, lq6])
          refine wt (i := 23) (v := ?vt5q23x77) rfl ?ht5q23x77 ?rt5q23x77
          case ht5q23x77 => (intro w hSw; (try dsimp only at hSw); go_simp; try with_reducible rfl)
          (try simp only [Act.put, lq1, lq2, lq3, lq4, lq5, lq6])
          refine wt (i := 24) (v := ?vt5q24x80) rfl ?ht5q24x80 ?rt5q24x80
          case ht5q24x80 => (intro w hSw; (try dsimp only at hSw); go_simp; try with_reducible rfl)
          (try simp only [Act.put, lq1, lq2, lq3, lq4, lq5, lq6])
          refine wpAnyH_done (by kernel_rfl) ?_ _
          go_wp2
          go_ret
          exact ⟨by first | rfl | exact congrArg (fun x => Ending.returned (.bool x)) (decide_eq_false (by omega)), HC⟩
      · obtain rfl := HT2.out (fun hx => absurd hx c4)
        rw [decide_eq_false c4] at heq
        clear c4 HT2 HF2
        go_enter Tryd.func24, Tryd.ntmps24
        go_upto_region 1 with fail
        refine wp_region_held_drew (S := (fun w' => (w'.cell? ⟨b, o, none⟩ = some (.int .i64 q.1) ∧ w'.cell? ⟨b, o + 1, none⟩ = some (.int .i64 q.2)) ∧ w'.cell? ⟨b, o + m * 2, none⟩ = some (.int .i64 p.1) ∧ w'.cell? ⟨b, o + m * 2 + 1, none⟩ = some (.int .i64 p.2))) (by kernel_rfl) ?_ (fun hHeld => ?_)
        · (try dsimp only); (with_reducible first | exact HQ.out _ HC | exact HQ.out _ HC.drew)
        refine wt (i := 0) (v := ?vt3q0x2) rfl ?ht3q0x2 ?rt3q0x2
        case ht3q0x2 => (intro w hSw; (try dsimp only at hSw); go_simp; try with_reducible rfl)
        (try simp only [Act.put, lq1, lq2, lq4, lq5, lq6])
        refine wt (i := 1) (v := ?vt3q1x5) rfl ?ht3q1x5 ?rt3q1x5
        case ht3q1x5 => (intro w hSw; (try dsimp only at hSw); go_simp; try with_reducible rfl)
        (try simp only [Act.put, lq1, lq2, lq3, lq4, lq5, lq6])
        refine wt (i := 2) (v := ?vt3q2x8) rfl ?ht3q2x8 ?rt3q2x8
        case ht3q2x8 => (intro w hSw; (try dsimp only at hSw); go_simp; try with_reducible rfl)
        (try simp only [Act.put, lq1, lq2, lq3, lq4, lq5, lq6])
        refine wt (i := 3) (v := ?vt3q3x11) rfl ?ht3q3x11 ?rt3q3x11
        case ht3q3x11 => (intro w hSw; (try dsimp only at hSw); go_simp; try with_reducible rfl)
        (try simp only [Act.put, lq1, lq2, lq3, lq4, lq5, lq6])
        refine wt (i := 4) (v := ?vt3q4x14) rfl ?ht3q4x14 ?rt3q4x14
        case ht3q4x14 => (intro w hSw; (try dsimp only at hSw); go_simp; try with_reducible rfl)
        (try simp only [Act.put, lq1, lq2, lq3, lq4, lq5, lq6])
        refine wpAnyH_ready (rs := [5]) (by kernel_rfl) (by simp) ?_
        refine AllReadyH.cons rfl (fun K hK => ?_) AllReadyH.nil
        go_simp
        go_wp2_with ((go_at_call 42; refine (HP.out _ (by with_reducible first | exact HC | exact HC.drew)).mono ?_; rintro e w1 ⟨rfl, hB⟩))
        replace HC := Gr.step (by with_reducible first | exact HC | exact HC.drew) hB.out
        clear hB
        refine hK.out _ _ ?_ (fun hHeld => ?_)
        · (try dsimp only); (with_reducible first | exact HQ.out _ HC | exact HQ.out _ HC.drew)
        clear hK K
        refine wt (i := 6) (v := ?vt3q6x26) rfl ?ht3q6x26 ?rt3q6x26
        case ht3q6x26 => (intro w hSw; (try dsimp only at hSw); go_simp; try with_reducible rfl)
        (try simp only [Act.put, lq1, lq2, lq3, lq4, lq5, lq6])
        refine wt (i := 7) (v := ?vt3q7x29) rfl ?ht3q7x29 ?rt3q7x29
        case ht3q7x29 => (intro w hSw; (try dsimp only at hSw); go_simp; try with_reducible rfl)
        (try simp only [Act.put, lq1, lq2, lq3, lq4, lq5, lq6])
        refine wt (i := 8) (v := ?vt3q8x32) rfl ?ht3q8x32 ?rt3q8x32
        case ht3q8x32 => (intro w hSw; (try dsimp only at hSw); go_simp; try with_reducible rfl)
        (try simp only [Act.put, lq1, lq2, lq3, lq4, lq5, lq6])
        refine wt (i := 9) (v := ?vt3q9x35) rfl ?ht3q9x35 ?rt3q9x35
        case ht3q9x35 => (intro w hSw; (try dsimp only at hSw); go_simp; try with_reducible rfl)
        (try simp only [Act.put, lq1, lq2, lq3, lq4, lq5, lq6])
        refine wt (i := 10) (v := ?vt3q10x38) rfl ?ht3q10x38 ?rt3q10x38
        case ht3q10x38 => (intro w hSw; (try dsimp only at hSw); go_simp; try with_reducible rfl)
        (try simp only [Act.put, lq1, lq2, lq3, lq4, lq5, lq6])
        refine wt (i := 11) (v := ?vt3q11x41) rfl ?ht3q11x41 ?rt3q11x41
        case ht3q11x41 => (intro w hSw; (try dsimp only at hSw); go_simp; try with_reducible rfl)
        (try simp only [Act.put, lq1, lq2, lq3, lq4, lq5, lq6])
        refine wt (i := 12) (v := ?vt3q12x44) rfl ?ht3q12x44 ?rt3q12x44
        case ht3q12x44 => (intro w hSw; (try dsimp only at hSw); go_simp; try with_reducible rfl)
        (try simp only [Act.put, lq1, lq2, lq3, lq4, lq5, lq6])
        refine wt (i := 13) (v := ?vt3q13x47) rfl ?ht3q13x47 ?rt3q13x47
        case ht3q13x47 => (intro w hSw; (try dsimp only at hSw); go_simp; try with_reducible rfl)
        (try simp only [Act.put, lq1, lq2, lq3, lq4, lq5, lq6])
        refine wt (i := 14) (v := ?vt3q14x50) rfl ?ht3q14x50 ?rt3q14x50
        case ht3q14x50 => (intro w hSw; (try dsimp only at hSw); go_simp; try with_reducible rfl)
        (try simp only [Act.put, lq1, lq2, lq3, lq4, lq5, lq6])
        refine wt (i := 15) (v := ?vt3q15x53) rfl ?ht3q15x53 ?rt3q15x53
        case ht3q15x53 => (intro w hSw; (try dsimp only at hSw); go_simp; try with_reducible rfl)
        (try simp only [Act.put, lq1, lq2, lq3, lq4, lq5, lq6])
        refine wt (i := 16) (v := ?vt3q16x56) rfl ?ht3q16x56 ?rt3q16x56
        case ht3q16x56 => (intro w hSw; (try dsimp only at hSw); go_simp; try with_reducible rfl)
        (try simp only [Act.put, lq1, lq2, lq3, lq4, lq5, lq6])
        refine wt (i := 17) (v := ?vt3q17x59) rfl ?ht3q17x59 ?rt3q17x59
        case ht3q17x59 => (intro w hSw; (try dsimp only at hSw); go_simp; try with_reducible rfl)
        (try simp only [Act.put, lq1, lq2, lq3, lq4, lq5, lq6])
        refine wt (i := 18) (v := ?vt3q18x62) rfl ?ht3q18x62 ?rt3q18x62
        case ht3q18x62 => (intro w hSw; (try dsimp only at hSw); go_simp; try with_reducible rfl)
        (try simp only [Act.put, lq1, lq2, lq3, lq4, lq5, lq6])
        refine wu (i := 19) rfl ?_
        (try simp only [Act.put, lq1, lq2, lq3, lq4, lq5, lq6])
        refine wu (i := 20) rfl ?_
        (try simp only [Act.put, lq1, lq2, lq3, lq4, lq5, lq6])
        refine wu (i := 21) rfl ?_
        (try simp only [Act.put, lq1, lq2, lq3, lq4, lq5, lq6])
        refine wt (i := 22) (v := ?vt3q22x71) rfl ?ht3q22x71 ?rt3q22x71
        case ht3q22x71 => (intro w hSw; (try dsimp only at hSw); go_simp; try with_reducible rfl)
        (try simp only [Act.put, lq1, lq2, lq3, lq4, lq5, lq6])
        refine wt (i := 23) (v := ?vt3q23x74) rfl ?ht3q23x74 ?rt3q23x74
        case ht3q23x74 => (intro w hSw; (try dsimp only at hSw); go_simp; try with_reducible rfl)
        (try simp only [Act.put, lq1, lq2, lq3, lq4, lq5, lq6])
        refine wt (i := 24) (v := ?vt3q24x77) rfl ?ht3q24x77 ?rt3q24x77
        case ht3q24x77 => (intro w hSw; (try dsimp only at hSw); go_simp; try with_reducible rfl)
        (try simp only [Act.put, lq1, lq2, lq3, lq4, lq5, lq6])
        refine wpAnyH_done (by kernel_rfl) ?_ _
        go_wp2
        go_ret
        exact ⟨rfl, HC⟩
    · rw [decide_eq_false c3] at HP
      obtain rfl := HF.out (fun hp => c3 hp.2.1)
      clear c2 c3 HT HF h
      generalize l.length = n at *
      go_enter Tryd.func24, Tryd.ntmps24
      go_upto_region 1 with fail
      refine wp_region_held_drew (S := (fun _ => True)) (by kernel_rfl) ?_ (fun hHeld => ?_)
      · (try dsimp only); all_goals trivial
      refine wt (i := 0) (v := ?vt2q0x2) rfl ?ht2q0x2 ?rt2q0x2
      case ht2q0x2 => (intro w hSw; (try dsimp only at hSw); go_simp; try with_reducible rfl)
      (try simp only [Act.put, lq1, lq2, lq4, lq5, lq6])
      refine wt (i := 1) (v := ?vt2q1x5) rfl ?ht2q1x5 ?rt2q1x5
      case ht2q1x5 => (intro w hSw; (try dsimp only at hSw); go_simp; try with_reducible rfl)
      (try simp only [Act.put, lq1, lq2, lq3, lq4, lq5, lq6])
      refine wt (i := 2) (v := ?vt2q2x8) rfl ?ht2q2x8 ?rt2q2x8
      case ht2q2x8 => (intro w hSw; (try dsimp only at hSw); go_simp; try with_reducible rfl)
      (try simp only [Act.put, lq1, lq2, lq3, lq4, lq5, lq6])
      refine wt (i := 3) (v := ?vt2q3x11) rfl ?ht2q3x11 ?rt2q3x11
      case ht2q3x11 => (intro w hSw; (try dsimp only at hSw); go_simp; try with_reducible rfl)
      (try simp only [Act.put, lq1, lq2, lq3, lq4, lq5, lq6])
      refine wt (i := 4) (v := ?vt2q4x14) rfl ?ht2q4x14 ?rt2q4x14
      case ht2q4x14 => (intro w hSw; (try dsimp only at hSw); go_simp; try with_reducible rfl)
      (try simp only [Act.put, lq1, lq2, lq3, lq4, lq5, lq6])
      refine wpAnyH_ready (rs := [5]) (by kernel_rfl) (by simp) ?_
      refine AllReadyH.cons rfl (fun K hK => ?_) AllReadyH.nil
      go_simp
      go_wp2_with ((go_at_call 42; refine (HP.out _ (by with_reducible first | exact HC | exact HC.drew)).mono ?_; rintro e w1 ⟨rfl, hB⟩))
      replace HC := Gr.step (by with_reducible first | exact HC | exact HC.drew) hB.out
      clear hB
      refine hK.out _ _ ?_ (fun hHeld => ?_)
      · (try dsimp only); all_goals trivial
      clear hK K
      refine wt (i := 6) (v := ?vt2q6x26) rfl ?ht2q6x26 ?rt2q6x26
      case ht2q6x26 => (intro w hSw; (try dsimp only at hSw); go_simp; try with_reducible rfl)
      (try simp only [Act.put, lq1, lq2, lq3, lq4, lq5, lq6])
      refine wt (i := 7) (v := ?vt2q7x29) rfl ?ht2q7x29 ?rt2q7x29
      case ht2q7x29 => (intro w hSw; (try dsimp only at hSw); go_simp; try with_reducible rfl)
      (try simp only [Act.put, lq1, lq2, lq3, lq4, lq5, lq6])
      refine wu (i := 8) rfl ?_
      (try simp only [Act.put, lq1, lq2, lq3, lq4, lq5, lq6])
      refine wu (i := 9) rfl ?_
      (try simp only [Act.put, lq1, lq2, lq3, lq4, lq5, lq6])
      refine wu (i := 10) rfl ?_
      (try simp only [Act.put, lq1, lq2, lq3, lq4, lq5, lq6])
      refine wu (i := 11) rfl ?_
      (try simp only [Act.put, lq1, lq2, lq3, lq4, lq5, lq6])
      refine wu (i := 12) rfl ?_
      (try simp only [Act.put, lq1, lq2, lq3, lq4, lq5, lq6])
      refine wu (i := 13) rfl ?_
      (try simp only [Act.put, lq1, lq2, lq3, lq4, lq5, lq6])
      refine wu (i := 14) rfl ?_
      (try simp only [Act.put, lq1, lq2, lq3, lq4, lq5, lq6])
      refine wu (i := 15) rfl ?_
      (try simp only [Act.put, lq1, lq2, lq3, lq4, lq5, lq6])
      refine wu (i := 16) rfl ?_
      (try simp only [Act.put, lq1, lq2, lq3, lq4, lq5, lq6])
      refine wu (i := 17) rfl ?_
      (try simp only [Act.put, lq1, lq2, lq3, lq4, lq5, lq6])
      refine wu (i := 18) rfl ?_
      (try simp only [Act.put, lq1, lq2, lq3, lq4, lq5, lq6])
      refine wu (i := 19) rfl ?_
      (try simp only [Act.put, lq1, lq2, lq3, lq4, lq5, lq6])
      refine wu (i := 20) rfl ?_
      (try simp only [Act.put, lq1, lq2, lq3, lq4, lq5, lq6])
      refine wu (i := 21) rfl ?_
      (try simp only [Act.put, lq1, lq2, lq3, lq4, lq5, lq6])
      refine wu (i := 22) rfl ?_
      (try simp only [Act.put, lq1, lq2, lq3, lq4, lq5, lq6])
      refine wt (i := 23) (v := ?vt2q23x62) rfl ?ht2q23x62 ?rt2q23x62
      case ht2q23x62 => (intro w hSw; (try dsimp only at hSw); go_simp; try with_reducible rfl)
      (try simp only [Act.put, lq1, lq2, lq3, lq4, lq5, lq6])
      refine wt (i := 24) (v := ?vt2q24x65) rfl ?ht2q24x65 ?rt2q24x65
      case ht2q24x65 => (intro w hSw; (try dsimp only at hSw); go_simp; try with_reducible rfl)
      (try simp only [Act.put, lq1, lq2, lq3, lq4, lq5, lq6])
      refine wpAnyH_done (by kernel_rfl) ?_ _
      go_wp2
      go_ret
      exact ⟨rfl, HC⟩
end Go.Proofs.YtnadgoomkaldkaaDoor
