/-
  grain.right, grain.split, grain.Floor, grain.Near.
-/
import Derived.Test.YtgjjgicojedefaaDoorFrB
namespace Go.Proofs.YtgjjgicojedefaaDoor
open Go.RowKit BG
attribute [local go_sem ↓] Go.wp_at_zero Go.wp_at_succ

set_option maxRecDepth 4000 in
set_option maxHeartbeats 2000000 in
theorem right_any (n d : Int) (h1 : -9223372036854775808 ≤ n) (h2 : n ≤ 9223372036854775807) (w : World) : Calls Tryd.prog 42 #[.agg #[.int .i64 n, .int .i64 d]] w fun e w' => e = .returned (.bool (decide (Rgt n d))) ∧ Below w.heap.size w w' := by
  have HC := (Gr.refl w).alloc (.cells #[.int .i64 n, .int .i64 d] 29)
  have PA := At.new2 w (.int .i64 n) (.int .i64 d) 29
  have HS := hidb (fun w => size_any n h1 h2 w)
  go_enter Tryd.func42, Tryd.ntmps42
  by_cases c1 : d < 1
  · have HE : Hid (decide (Rgt n d) = false) := decide_eq_false (fun h => by have := h.1; omega)
    go_wp2
    go_ret
    exact ⟨by rw [HE.out]; rfl, HC⟩
  by_cases c2 : 4611686018427387904 < d
  · have HE : Hid (decide (Rgt n d) = false) := decide_eq_false (fun h => by have := h.1; omega)
    go_wp2
    go_ret
    exact ⟨by rw [HE.out]; rfl, HC⟩
  have HD := hidb (fun w => divisor_any n.natAbs d.natAbs (by omega) (by omega) w)
  have ed : ((d.natAbs : Nat) : Int) = IntKind.u64.wrap d := by rw [IntKind.wrap_u64]; omega
  rw [ed] at HD
  by_cases c3 : 4611686018427387904 < n.natAbs
  · have HE : Hid (decide (Rgt n d) = false) := decide_eq_false (fun h => by have := h.1; omega)
    have c3' : (4611686018427387904 : Int) < ((n.natAbs : Nat) : Int) := by omega
    go_wp2_with fail
    refine (HS.out _).mono ?_
    rintro e w2 ⟨rfl, hB⟩
    replace HC := Gr.step HC hB
    generalize n.natAbs = k at *
    go_wp2
    go_ret
    exact ⟨by rw [HE.out]; rfl, HC⟩
  · have HE : Hid (Rgt n d ↔ Nat.gcd n.natAbs d.natAbs = 1) := ⟨fun h => h.2, fun h => ⟨by omega, h⟩⟩
    have c3' : ¬ (4611686018427387904 : Int) < ((n.natAbs : Nat) : Int) := by omega
    go_wp2_with fail
    refine (HS.out _).mono ?_
    rintro e w2 ⟨rfl, hB⟩
    replace HC := Gr.step HC hB
    replace PA := At.below hB PA
    clear hB
    obtain ⟨p0, p1⟩ := PA.c2
    generalize n.natAbs = k at *
    go_upto_region 3 with fail
    go_region_held (fun w' => w'.cell? ⟨w.heap.size, 0, none⟩ = some (.int .i64 n) ∧ w'.cell? ⟨w.heap.size, 1, none⟩ = some (.int .i64 d))
      ((refine At.c2 (a := .int .i64 n) (b := .int .i64 d) ?_; ((with_reducible repeat' (first | assumption | exact At.new1 _ _ _ | exact At.new2 _ _ _ _ | exact At.new3 _ _ _ _ _ | exact At.nx1 _ _ _ | exact At.nx2 _ _ _ _ | exact At.nx3 _ _ _ _ _ | exact At.ny1 _ _ _ _ | exact At.ny2 _ _ _ _ _ | exact At.ny3 _ _ _ _ _ _ | exact At.nz1 _ _ _ _ _ | exact At.nz2 _ _ _ _ _ _ | exact At.nz3 _ _ _ _ _ _ _ | exact Has.new1 _ _ _ | exact Has.new2 _ _ _ _ | exact Has.new3 _ _ _ _ _ | exact Has.nx1 _ _ _ | exact Has.nx2 _ _ _ _ | exact Has.nx3 _ _ _ _ _ | exact Has.ny1 _ _ _ _ | exact Has.ny2 _ _ _ _ _ | exact Has.ny3 _ _ _ _ _ _ | exact Has.nz1 _ _ _ _ _ | exact Has.nz2 _ _ _ _ _ _ | exact Has.nz3 _ _ _ _ _ _ _ | refine At.fill1 ?_ _ | refine At.fill2 ?_ _ _ | refine At.fill3 ?_ _ _ _ | refine At.swap ?_ (by first | omega | (simp; omega)) _ _ | refine At.alloc ?_ _ | refine At.drew ?_ | refine At.skip ?_ (by first | omega | (simp; omega)) _ _ | refine At.below (by assumption) ?_ | refine Has.alloc ?_ _ | refine Has.drew ?_ | refine Has.set ?_ _ _ _ | refine Has.below (by assumption) ?_)); done)))
      ((first
        | (go_at_call 34; with_reducible refine (HS.out _).mono ?_; rintro e w5 ⟨rfl, hB5⟩; (with_reducible first | replace hB5 := undr hB5 | skip); replace HC := Gr.step HC hB5; replace PA := At.below hB5 PA)
        | (go_at_call 35; with_reducible refine (HD.out _).mono ?_; rintro e w6 ⟨rfl, hB6⟩; (with_reducible first | replace hB6 := undr hB6 | skip); replace HC := Gr.step HC hB6; replace PA := At.below hB6 PA)))
    have HF : Hid (decide (Rgt n d) = (((Nat.gcd k d.natAbs : Nat) : Int) == 1)) := by
      show _ = _
      by_cases c : Nat.gcd k d.natAbs = 1
      · rw [decide_eq_true (HE.out.2 c), c]; rfl
      · rw [decide_eq_false (fun h => c (HE.out.1 h))]; symm; simp; omega
    generalize Nat.gcd k d.natAbs = g at *
    go_wp2
    go_ret
    exact ⟨by rw [HF.out]; rfl, HC⟩
theorem split_any (n d : Int) (hn : Sml n) (h1 : 1 ≤ d) (h2 : d ≤ 4611686018427387904) (w : World) : Calls Tryd.prog 47 #[.agg #[.int .i64 n, .int .i64 d]] w fun e w' => e = .returned (.tuple #[.int .i64 (n / d), .int .i64 (n % d)]) ∧ Below w.heap.size w w' := by
  obtain ⟨f1, f2⟩ := td_floor (n := n) h1
  obtain ⟨b1, b2⟩ := td_size hn h1
  obtain ⟨_, q2, q3, q4, q5, _⟩ := fl_facts hn h1
  have h0 : ¬ d = 0 := by omega
  have HC := (Gr.refl w).alloc (.cells #[.int .i64 n, .int .i64 d] 29)
  unfold Sml at hn
  have PA := At.new2 w (.int .i64 n) (.int .i64 d) 29
  by_cases c : n.tmod d < 0
  · obtain ⟨g1, g2⟩ := f1 c
    rw [g1, g2]
    rw [g1] at q4 q5
    rw [g2] at q2 q3
    clear f1 f2 g1 g2
    go_enter Tryd.func47, Tryd.ntmps47
    go_upto_region 1 with fail
    generalize w.alloc (.cells #[.int .i64 n, .int .i64 d] 29) = w1 at *
    obtain ⟨p0, p1⟩ := PA.c2
    go_quiet (fail)
    go_wp2_with fail
    generalize hw2 : World.drewN w1 _ = w2
    replace PA := PA.drewN (W := w1)
    replace HC := HC.drewN (w' := w1)
    have HC2 : Gr w w2 := by rw [← hw2]; exact HC _
    have PA2 : At w2 w.heap.size [.int .i64 n, .int .i64 d] := by rw [← hw2]; exact PA _
    clear hw2 PA HC p0 p1
    obtain ⟨p0, p1⟩ := PA2.c2
    go_quiet (fail)
    go_wp2_with fail
    exact bodyPost_ret (v := .tuple #[.int .i64 (n.tdiv d - 1), .int .i64 (n.tmod d + d)]) (by simp [results, Tryd.results47, go_sem]) rfl ⟨rfl, HC2.drewN _⟩
  · obtain ⟨g1, g2⟩ := f2 c
    rw [g1, g2]
    rw [g1] at q4 q5
    rw [g2] at q2 q3
    clear f1 f2 g1 g2
    go_enter Tryd.func47, Tryd.ntmps47
    go_upto_region 1 with fail
    generalize w.alloc (.cells #[.int .i64 n, .int .i64 d] 29) = w1 at *
    obtain ⟨p0, p1⟩ := PA.c2
    go_quiet (fail)
    go_wp2_with fail
    exact bodyPost_ret (v := .tuple #[.int .i64 (n.tdiv d), .int .i64 (n.tmod d)]) (by simp [results, Tryd.results47, go_sem]) rfl ⟨rfl, HC.drewN _⟩
end Go.Proofs.YtgjjgicojedefaaDoor
