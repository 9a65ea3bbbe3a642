/-
  wave.Strip: Valid, series; mercatorref2.StripError.
-/
import Derived.Test.YtinopkmcddjgdaaGreatDoorQWvF
namespace Go.Proofs.YtinopkmcddjgdaaGreatDoor
open Go.RowKit FB
attribute [local go_sem] run_store_float

abbrev sV (a f : Nat) (mid : Int) (m : Nat) : Value := .agg #[.float .f64 a, .float .f64 f, .int .i64 mid, .float .f64 m]
abbrev sL (a f : Nat) (mid : Int) (m : Nat) : List Value := [.float .f64 a, .float .f64 f, .int .i64 mid, .float .f64 m]
theorem At.new4 (W : World) (a b c d : Value) (t : Nat) : At (W.alloc (.cells #[a, b, c, d] t)) W.heap.size [a, b, c, d] := At.newRow W [a, b, c, d] t
/-- The number of a strip's error. -/
def scode (a f m : Nat) : Nat := if okG a f = true then (if inB 4591870180066957722 4621819117588971520 m = true then 0 else 3) else 3
theorem scode_cases (a f m : Nat) : scode a f m = 0 ∨ scode a f m = 3 := by
  unfold scode
  split
  · split
    · exact .inl rfl
    · exact .inr rfl
  · exact .inr rfl
theorem scode_ok {a f m : Nat} (h : scode a f m = 0) : okG a f = true ∧ inB 4591870180066957722 4621819117588971520 m = true := by
  unfold scode at h
  cases hg : okG a f with
  | false => rw [hg] at h; cases h
  | true =>
    rw [if_pos hg] at h
    cases hm : inB 4591870180066957722 4621819117588971520 m with
    | false => rw [hm] at h; cases h
    | true => exact ⟨rfl, rfl⟩
set_option maxHeartbeats 2000000 in
theorem svalid_at (g : Nat → Addr) (a f m : Nat) (mid : Int) (w : World) (hl : Laid w g) : Calls Tryz.prog 8 #[sV a f mid m] w fun x w' => x = .returned (evOf g (scode a f m)) ∧ Gr w w' := by
  have HL := hid hl
  clear hl
  unfold scode
  cases hg : okG a f with
  | false =>
    rw [if_neg (by decide)]
    go_enter Tryz.func8, Tryz.ntmps8
    go_wp2_with fail
    refine (valid_no g a f hg _ (HL.out.alloc _)).mono ?_
    rintro x w1 ⟨rfl, hB⟩
    have HC : Gr w w1 := Gr.step (by ((with_reducible repeat' (first | assumption | refine Gr.drewN ?_ _ | refine Gr.drew ?_ | refine Gr.alloc ?_ _ | exact Gr.refl _)); done)) hB
    clear hB
    go_wp2
    go_ret
    exact ⟨rfl, HC⟩
  | true =>
    rw [if_pos rfl]
    cases hm : inB 4591870180066957722 4621819117588971520 m with
    | true =>
      rw [if_pos rfl]
      unfold inB geB leB at hm
      rw [Bool.and_eq_true] at hm
      obtain ⟨h1, h2⟩ := hm
      go_enter Tryz.func8, Tryz.ntmps8
      go_wp2_with fail
      refine (valid_ok a f hg _).mono ?_
      rintro x w1 ⟨rfl, hB⟩
      have HC : Gr w w1 := Gr.step (by ((with_reducible repeat' (first | assumption | refine Gr.drewN ?_ _ | refine Gr.drew ?_ | refine Gr.alloc ?_ _ | exact Gr.refl _)); done)) hB
      have PA : At w1 w.heap.size (sL a f mid m) := At.below hB (At.new4 w _ _ _ _ _)
      obtain ⟨c0, c1, c2, c3⟩ := PA.c4
      clear hB
      go_wp2
      go_ret
      exact ⟨rfl, HC⟩
    | false =>
      rw [if_neg (by decide)]
      unfold inB geB leB at hm
      cases h1 : (FloatKind.f64.format.order m 4591870180066957722 == some Ordering.gt || FloatKind.f64.format.order m 4591870180066957722 == some Ordering.eq) with
      | false =>
        clear hm
        go_enter Tryz.func8, Tryz.ntmps8
        go_wp2_with fail
        refine (valid_ok a f hg _).mono ?_
        rintro x w1 ⟨rfl, hB⟩
        have HC : Gr w w1 := Gr.step (by ((with_reducible repeat' (first | assumption | refine Gr.drewN ?_ _ | refine Gr.drew ?_ | refine Gr.alloc ?_ _ | exact Gr.refl _)); done)) hB
        have PA : At w1 w.heap.size (sL a f mid m) := At.below hB (At.new4 w _ _ _ _ _)
        have cg : w1.cell? ⟨0, 0, none⟩ = some (.iface 160 (.pointer (some (g 2)))) := (HL.out.below HC).cell 2 (by decide)
        obtain ⟨c0, c1, c2, c3⟩ := PA.c4
        clear hB
        go_wp2
        go_ret
        exact ⟨rfl, HC⟩
      | true =>
        rw [h1, Bool.true_and] at hm
        go_enter Tryz.func8, Tryz.ntmps8
        go_wp2_with fail
        refine (valid_ok a f hg _).mono ?_
        rintro x w1 ⟨rfl, hB⟩
        have HC : Gr w w1 := Gr.step (by ((with_reducible repeat' (first | assumption | refine Gr.drewN ?_ _ | refine Gr.drew ?_ | refine Gr.alloc ?_ _ | exact Gr.refl _)); done)) hB
        have PA : At w1 w.heap.size (sL a f mid m) := At.below hB (At.new4 w _ _ _ _ _)
        have cg : w1.cell? ⟨0, 0, none⟩ = some (.iface 160 (.pointer (some (g 2)))) := (HL.out.below HC).cell 2 (by decide)
        obtain ⟨c0, c1, c2, c3⟩ := PA.c4
        clear hB
        go_wp2
        go_ret
        exact ⟨rfl, HC⟩
set_option maxHeartbeats 2000000 in
theorem stripError_any (a f m : Nat) (mid : Int) (w : World) : Calls Tryz.prog 9 #[sV a f mid m] w fun x w' => x = .returned (.int .i64 (scode a f m)) ∧ Gr w w' := by
  have HB := hid between_any
  unfold scode
  cases hg : okG a f with
  | false =>
    go_enter Tryz.func9, Tryz.ntmps9
    go_wp2_with fail
    refine (globeError_any _ _ _).mono ?_
    rw [hg]
    rintro x w1 ⟨rfl, hB⟩
    rw [if_neg (by decide)]
    have HC : Gr w w1 := Gr.step (by ((with_reducible repeat' (first | assumption | refine Gr.drewN ?_ _ | refine Gr.drew ?_ | refine Gr.alloc ?_ _ | exact Gr.refl _)); done)) hB
    clear hB
    go_wp2
    go_ret
    exact ⟨rfl, HC⟩
  | true =>
    cases hm : inB 4591870180066957722 4621819117588971520 m
    all_goals
      go_enter Tryz.func9, Tryz.ntmps9
      go_wp2_with fail
      refine (globeError_any _ _ _).mono ?_
      rw [hg]
      rintro x w1 ⟨rfl, hB⟩
      rw [if_pos rfl]
      have HC : Gr w w1 := Gr.step (by ((with_reducible repeat' (first | assumption | refine Gr.drewN ?_ _ | refine Gr.drew ?_ | refine Gr.alloc ?_ _ | exact Gr.refl _)); done)) hB
      have PA : At w1 w.heap.size (sL a f mid m) := At.below hB (At.new4 w _ _ _ _ _)
      obtain ⟨c0, c1, c2, c3⟩ := PA.c4
      clear hB
      go_wp2_with (go_at_call 23; refine (HB.out _ _ _ _).mono ?_; rintro e w' ⟨rfl, rfl⟩)
      go_ret
      exact ⟨rfl, HC⟩
theorem c444 {W : World} {B C D : Nat} {a b c d x y z u p q r s : Value} (h : At W B [a, b, c, d]) (k : At W C [x, y, z, u]) (l : At W D [p, q, r, s]) : W.cell? ⟨B, 0, none⟩ = some a ∧ W.cell? ⟨B, 1, none⟩ = some b ∧ W.cell? ⟨B, 2, none⟩ = some c ∧ W.cell? ⟨B, 3, none⟩ = some d ∧ W.cell? ⟨C, 0, none⟩ = some x ∧ W.cell? ⟨C, 1, none⟩ = some y ∧ W.cell? ⟨C, 2, none⟩ = some z ∧ W.cell? ⟨C, 3, none⟩ = some u ∧ W.cell? ⟨D, 0, none⟩ = some p ∧ W.cell? ⟨D, 1, none⟩ = some q ∧ W.cell? ⟨D, 2, none⟩ = some r ∧ W.cell? ⟨D, 3, none⟩ = some s :=
  ⟨h.c4.1, h.c4.2.1, h.c4.2.2.1, h.c4.2.2.2, k.c4.1, k.c4.2.1, k.c4.2.2.1, k.c4.2.2.2, l.c4.1, l.c4.2.1, l.c4.2.2.1, l.c4.2.2.2⟩
/-- The radius at the strip's scale. -/
def srO (a n m : Nat) : Option Nat := oM (raS a n) (some m)
set_option maxHeartbeats 8000000 in
theorem sseries_ok (a f n m : Nat) (mid : Int) (hn : nO f = some n) (hg : okG a f = true) (w : World) : Calls Tryz.prog 25 #[sV a f mid m] w fun e w' => ∃ r a0 a1 a2 a3 b0 b1 b2 b3, e = .returned (.tuple #[.float .f64 r, rV a0 a1 a2 a3, rV b0 b1 b2 b3]) ∧ GW (srO a (uz n) m) r ∧ GF (aS (uz n)) a0 a1 a2 a3 ∧ GF (bS (uz n)) b0 b1 b2 b3 ∧ Gr w w' := by
  obtain ⟨mF, aF, sF, qF, mD, aD, sD, qD, hm, ha, hss, hq, gm, ga, gs, gq⟩ := ops
  have HS := hid (fun w => series_ok a f n hn hg w)
  clear hn hg
  go_enter Tryz.func25, Tryz.ntmps25
  go_wp2_with fail
  refine (HS.out _).mono ?_
  rintro e w1 ⟨r, a0, a1, a2, a3, b0, b1, b2, b3, rfl, hr, hA, hBf, hB⟩
  have PA : At w1 w.heap.size (sL a f mid m) := At.below hB (((At.new4 w _ _ _ _ _).alloc _).alloc _)
  have RA : At w1 (w.heap.size + 1) (rL 0 0 0 0) := At.below hB ((At.newRow (w.alloc (.cells #[.float .f64 a, .float .f64 f, .int .i64 mid, .float .f64 m] 35)) (rL 0 0 0 0) 69).alloc _ |> fun h => by simpa using h)
  have TA : At w1 (w.heap.size + 1 + 1) (rL 0 0 0 0) := At.below hB (At.newRow ((w.alloc (.cells #[.float .f64 a, .float .f64 f, .int .i64 mid, .float .f64 m] 35)).alloc (.cells #[.float .f64 0, .float .f64 0, .float .f64 0, .float .f64 0] 69)) (rL 0 0 0 0) 69 |> fun h => by simpa using h)
  have HC : Gr w w1 := Gr.step (by ((with_reducible repeat' (first | assumption | refine Gr.drew ?_ | refine Gr.drewN ?_ _ | refine Gr.alloc ?_ _ | refine Gr.set ?_ (by first | omega | (simp; omega)) _ _ | exact Gr.refl _)); done)) hB
  have HA := hid hA
  have HBf := hid hBf
  clear hB hA hBf HS
  obtain ⟨r0, r1, r2, r3⟩ := RA.c4
  obtain ⟨f0, f1, f2, f3⟩ := RA.f4
  obtain ⟨t0, t1, t2, t3⟩ := TA.c4
  obtain ⟨z0, z1, z2, z3⟩ := TA.f4
  go_upto_region 2 with fail
  clear r0 r1 r2 r3 f0 f1 f2 f3 t0 t1 t2 t3 z0 z1 z2 z3
  generalize hw : World.setCell _ _ _ = w2
  replace PA : At w2 w.heap.size (sL a f mid m) := by
    rw [← hw]
    ((with_reducible repeat' (first | assumption | exact At.new1 _ _ _ | exact At.new2 _ _ _ _ | exact At.new3 _ _ _ _ _ | exact At.new5 _ _ _ _ _ _ _ | exact At.nx1 _ _ _ | exact At.nx2 _ _ _ _ | exact At.nx3 _ _ _ _ _ | exact At.ny1 _ _ _ _ | exact At.ny2 _ _ _ _ _ | exact At.ny3 _ _ _ _ _ _ | exact At.nz1 _ _ _ _ _ | exact At.nz2 _ _ _ _ _ _ | exact At.nz3 _ _ _ _ _ _ _ | exact Has.new1 _ _ _ | exact Has.new2 _ _ _ _ | exact Has.new3 _ _ _ _ _ | exact Has.nx1 _ _ _ | exact Has.nx2 _ _ _ _ | exact Has.nx3 _ _ _ _ _ | exact Has.ny1 _ _ _ _ | exact Has.ny2 _ _ _ _ _ | exact Has.ny3 _ _ _ _ _ _ | exact Has.nz1 _ _ _ _ _ | exact Has.nz2 _ _ _ _ _ _ | exact Has.nz3 _ _ _ _ _ _ _ | refine At.fill4 ?_ _ _ _ _ | refine At.fill1 ?_ _ | refine At.fill2 ?_ _ _ | refine At.fill3 ?_ _ _ _ | refine At.swap ?_ (by first | omega | (simp; omega)) _ _ | refine At.alloc ?_ _ | refine At.drew ?_ | refine At.drewN ?_ _ | refine At.skip ?_ (by first | omega | (simp; omega)) _ _ | refine At.below (by assumption) ?_ | exact At.has (by assumption) rfl | refine Has.alloc ?_ _ | refine Has.drew ?_ | refine Has.drewN ?_ _ | refine Has.set ?_ _ _ _ | refine Has.below (by assumption) ?_)); done)
  have RB : At w2 (w.heap.size + 1) (rL a0 a1 a2 a3) := by
    rw [← hw]
    ((with_reducible repeat' (first | assumption | exact At.new1 _ _ _ | exact At.new2 _ _ _ _ | exact At.new3 _ _ _ _ _ | exact At.new5 _ _ _ _ _ _ _ | exact At.nx1 _ _ _ | exact At.nx2 _ _ _ _ | exact At.nx3 _ _ _ _ _ | exact At.ny1 _ _ _ _ | exact At.ny2 _ _ _ _ _ | exact At.ny3 _ _ _ _ _ _ | exact At.nz1 _ _ _ _ _ | exact At.nz2 _ _ _ _ _ _ | exact At.nz3 _ _ _ _ _ _ _ | exact Has.new1 _ _ _ | exact Has.new2 _ _ _ _ | exact Has.new3 _ _ _ _ _ | exact Has.nx1 _ _ _ | exact Has.nx2 _ _ _ _ | exact Has.nx3 _ _ _ _ _ | exact Has.ny1 _ _ _ _ | exact Has.ny2 _ _ _ _ _ | exact Has.ny3 _ _ _ _ _ _ | exact Has.nz1 _ _ _ _ _ | exact Has.nz2 _ _ _ _ _ _ | exact Has.nz3 _ _ _ _ _ _ _ | refine At.fill4 ?_ _ _ _ _ | refine At.fill1 ?_ _ | refine At.fill2 ?_ _ _ | refine At.fill3 ?_ _ _ _ | refine At.swap ?_ (by first | omega | (simp; omega)) _ _ | refine At.alloc ?_ _ | refine At.drew ?_ | refine At.drewN ?_ _ | refine At.skip ?_ (by first | omega | (simp; omega)) _ _ | refine At.below (by assumption) ?_ | exact At.has (by assumption) rfl | refine Has.alloc ?_ _ | refine Has.drew ?_ | refine Has.drewN ?_ _ | refine Has.set ?_ _ _ _ | refine Has.below (by assumption) ?_)); done)
  have TB : At w2 (w.heap.size + 1 + 1) (rL b0 b1 b2 b3) := by
    rw [← hw]
    ((with_reducible repeat' (first | assumption | exact At.new1 _ _ _ | exact At.new2 _ _ _ _ | exact At.new3 _ _ _ _ _ | exact At.new5 _ _ _ _ _ _ _ | exact At.nx1 _ _ _ | exact At.nx2 _ _ _ _ | exact At.nx3 _ _ _ _ _ | exact At.ny1 _ _ _ _ | exact At.ny2 _ _ _ _ _ | exact At.ny3 _ _ _ _ _ _ | exact At.nz1 _ _ _ _ _ | exact At.nz2 _ _ _ _ _ _ | exact At.nz3 _ _ _ _ _ _ _ | exact Has.new1 _ _ _ | exact Has.new2 _ _ _ _ | exact Has.new3 _ _ _ _ _ | exact Has.nx1 _ _ _ | exact Has.nx2 _ _ _ _ | exact Has.nx3 _ _ _ _ _ | exact Has.ny1 _ _ _ _ | exact Has.ny2 _ _ _ _ _ | exact Has.ny3 _ _ _ _ _ _ | exact Has.nz1 _ _ _ _ _ | exact Has.nz2 _ _ _ _ _ _ | exact Has.nz3 _ _ _ _ _ _ _ | refine At.fill4 ?_ _ _ _ _ | refine At.fill1 ?_ _ | refine At.fill2 ?_ _ _ | refine At.fill3 ?_ _ _ _ | refine At.swap ?_ (by first | omega | (simp; omega)) _ _ | refine At.alloc ?_ _ | refine At.drew ?_ | refine At.drewN ?_ _ | refine At.skip ?_ (by first | omega | (simp; omega)) _ _ | refine At.below (by assumption) ?_ | exact At.has (by assumption) rfl | refine Has.alloc ?_ _ | refine Has.drew ?_ | refine Has.drewN ?_ _ | refine Has.set ?_ _ _ _ | refine Has.below (by assumption) ?_)); done)
  replace HC : Gr w w2 := by
    rw [← hw]
    ((with_reducible repeat' (first | assumption | refine Gr.drew ?_ | refine Gr.drewN ?_ _ | refine Gr.alloc ?_ _ | refine Gr.set ?_ (by first | omega | (simp; omega)) _ _ | exact Gr.refl _)); done)
  clear hw RA TA
  obtain ⟨r0, r1, r2, r3⟩ := RB.c4
  obtain ⟨f0, f1, f2, f3⟩ := RB.f4
  obtain ⟨t0, t1, t2, t3⟩ := TB.c4
  obtain ⟨z0, z1, z2, z3⟩ := TB.f4
  go_region_held (fun w' => w'.cell? ⟨w.heap.size, 0, none⟩ = some (.float .f64 a) ∧ w'.cell? ⟨w.heap.size, 1, none⟩ = some (.float .f64 f) ∧ w'.cell? ⟨w.heap.size, 2, none⟩ = some (.int .i64 mid) ∧ w'.cell? ⟨w.heap.size, 3, none⟩ = some (.float .f64 m) ∧ w'.cell? ⟨w.heap.size + 1, 0, none⟩ = some (.float .f64 a0) ∧ w'.cell? ⟨w.heap.size + 1, 1, none⟩ = some (.float .f64 a1) ∧ w'.cell? ⟨w.heap.size + 1, 2, none⟩ = some (.float .f64 a2) ∧ w'.cell? ⟨w.heap.size + 1, 3, none⟩ = some (.float .f64 a3) ∧ w'.cell? ⟨w.heap.size + 1 + 1, 0, none⟩ = some (.float .f64 b0) ∧ w'.cell? ⟨w.heap.size + 1 + 1, 1, none⟩ = some (.float .f64 b1) ∧ w'.cell? ⟨w.heap.size + 1 + 1, 2, none⟩ = some (.float .f64 b2) ∧ w'.cell? ⟨w.heap.size + 1 + 1, 3, none⟩ = some (.float .f64 b3))
    ((refine c444 (a := .float .f64 a) (b := .float .f64 f) (c := .int .i64 mid) (d := .float .f64 m) (x := .float .f64 a0) (y := .float .f64 a1) (z := .float .f64 a2) (u := .float .f64 a3) (p := .float .f64 b0) (q := .float .f64 b1) (r := .float .f64 b2) (s := .float .f64 b3) ?_ ?_ ?_; all_goals ((with_reducible repeat' (first | assumption | exact At.new1 _ _ _ | exact At.new2 _ _ _ _ | exact At.new3 _ _ _ _ _ | exact At.new5 _ _ _ _ _ _ _ | exact At.nx1 _ _ _ | exact At.nx2 _ _ _ _ | exact At.nx3 _ _ _ _ _ | exact At.ny1 _ _ _ _ | exact At.ny2 _ _ _ _ _ | exact At.ny3 _ _ _ _ _ _ | exact At.nz1 _ _ _ _ _ | exact At.nz2 _ _ _ _ _ _ | exact At.nz3 _ _ _ _ _ _ _ | exact Has.new1 _ _ _ | exact Has.new2 _ _ _ _ | exact Has.new3 _ _ _ _ _ | exact Has.nx1 _ _ _ | exact Has.nx2 _ _ _ _ | exact Has.nx3 _ _ _ _ _ | exact Has.ny1 _ _ _ _ | exact Has.ny2 _ _ _ _ _ | exact Has.ny3 _ _ _ _ _ _ | exact Has.nz1 _ _ _ _ _ | exact Has.nz2 _ _ _ _ _ _ | exact Has.nz3 _ _ _ _ _ _ _ | refine At.fill4 ?_ _ _ _ _ | refine At.fill1 ?_ _ | refine At.fill2 ?_ _ _ | refine At.fill3 ?_ _ _ _ | refine At.swap ?_ (by first | omega | (simp; omega)) _ _ | refine At.alloc ?_ _ | refine At.drew ?_ | refine At.drewN ?_ _ | refine At.skip ?_ (by first | omega | (simp; omega)) _ _ | refine At.below (by assumption) ?_ | exact At.has (by assumption) rfl | refine Has.alloc ?_ _ | refine Has.drew ?_ | refine Has.drewN ?_ _ | refine Has.set ?_ _ _ _ | refine Has.below (by assumption) ?_)); done)))
    (fail)
  all_goals
    generalize hx : mF r m _ = x
    have gx : GW (srO a (uz n) m) x := by rw [← hx]; exact gm _ _ _ _ _ hr.1 (gsm m)
    clear hx r0 r1 r2 r3 f0 f1 f2 f3 t0 t1 t2 t3 z0 z1 z2 z3
    generalize hw : World.drewN _ _ = w3
    replace RB : At w3 (w.heap.size + 1) (rL a0 a1 a2 a3) := by rw [← hw]; ((with_reducible repeat' (first | assumption | exact At.new1 _ _ _ | exact At.new2 _ _ _ _ | exact At.new3 _ _ _ _ _ | exact At.new5 _ _ _ _ _ _ _ | exact At.nx1 _ _ _ | exact At.nx2 _ _ _ _ | exact At.nx3 _ _ _ _ _ | exact At.ny1 _ _ _ _ | exact At.ny2 _ _ _ _ _ | exact At.ny3 _ _ _ _ _ _ | exact At.nz1 _ _ _ _ _ | exact At.nz2 _ _ _ _ _ _ | exact At.nz3 _ _ _ _ _ _ _ | exact Has.new1 _ _ _ | exact Has.new2 _ _ _ _ | exact Has.new3 _ _ _ _ _ | exact Has.nx1 _ _ _ | exact Has.nx2 _ _ _ _ | exact Has.nx3 _ _ _ _ _ | exact Has.ny1 _ _ _ _ | exact Has.ny2 _ _ _ _ _ | exact Has.ny3 _ _ _ _ _ _ | exact Has.nz1 _ _ _ _ _ | exact Has.nz2 _ _ _ _ _ _ | exact Has.nz3 _ _ _ _ _ _ _ | refine At.fill4 ?_ _ _ _ _ | refine At.fill1 ?_ _ | refine At.fill2 ?_ _ _ | refine At.fill3 ?_ _ _ _ | refine At.swap ?_ (by first | omega | (simp; omega)) _ _ | refine At.alloc ?_ _ | refine At.drew ?_ | refine At.drewN ?_ _ | refine At.skip ?_ (by first | omega | (simp; omega)) _ _ | refine At.below (by assumption) ?_ | exact At.has (by assumption) rfl | refine Has.alloc ?_ _ | refine Has.drew ?_ | refine Has.drewN ?_ _ | refine Has.set ?_ _ _ _ | refine Has.below (by assumption) ?_)); done)
    replace TB : At w3 (w.heap.size + 1 + 1) (rL b0 b1 b2 b3) := by rw [← hw]; ((with_reducible repeat' (first | assumption | exact At.new1 _ _ _ | exact At.new2 _ _ _ _ | exact At.new3 _ _ _ _ _ | exact At.new5 _ _ _ _ _ _ _ | exact At.nx1 _ _ _ | exact At.nx2 _ _ _ _ | exact At.nx3 _ _ _ _ _ | exact At.ny1 _ _ _ _ | exact At.ny2 _ _ _ _ _ | exact At.ny3 _ _ _ _ _ _ | exact At.nz1 _ _ _ _ _ | exact At.nz2 _ _ _ _ _ _ | exact At.nz3 _ _ _ _ _ _ _ | exact Has.new1 _ _ _ | exact Has.new2 _ _ _ _ | exact Has.new3 _ _ _ _ _ | exact Has.nx1 _ _ _ | exact Has.nx2 _ _ _ _ | exact Has.nx3 _ _ _ _ _ | exact Has.ny1 _ _ _ _ | exact Has.ny2 _ _ _ _ _ | exact Has.ny3 _ _ _ _ _ _ | exact Has.nz1 _ _ _ _ _ | exact Has.nz2 _ _ _ _ _ _ | exact Has.nz3 _ _ _ _ _ _ _ | refine At.fill4 ?_ _ _ _ _ | refine At.fill1 ?_ _ | refine At.fill2 ?_ _ _ | refine At.fill3 ?_ _ _ _ | refine At.swap ?_ (by first | omega | (simp; omega)) _ _ | refine At.alloc ?_ _ | refine At.drew ?_ | refine At.drewN ?_ _ | refine At.skip ?_ (by first | omega | (simp; omega)) _ _ | refine At.below (by assumption) ?_ | exact At.has (by assumption) rfl | refine Has.alloc ?_ _ | refine Has.drew ?_ | refine Has.drewN ?_ _ | refine Has.set ?_ _ _ _ | refine Has.below (by assumption) ?_)); done)
    replace HC : Gr w w3 := by rw [← hw]; ((with_reducible repeat' (first | assumption | refine Gr.drew ?_ | refine Gr.drewN ?_ _ | refine Gr.alloc ?_ _ | refine Gr.set ?_ (by first | omega | (simp; omega)) _ _ | exact Gr.refl _)); done)
    clear hw
    obtain ⟨r0, r1, r2, r3⟩ := RB.c4
    obtain ⟨t0, t1, t2, t3⟩ := TB.c4
    go_wp2
    exact bodyPost_ret (v := .tuple #[.float .f64 x, rV a0 a1 a2 a3, rV b0 b1 b2 b3]) (by simp [results, Tryz.results25, go_sem, r0, r1, r2, r3, t0, t1, t2, t3]) rfl ⟨_, _, _, _, _, _, _, _, _, rfl, gx, HA.out, HBf.out, by ((with_reducible repeat' (first | assumption | refine Gr.drew ?_ | refine Gr.drewN ?_ _ | refine Gr.alloc ?_ _ | refine Gr.set ?_ (by first | omega | (simp; omega)) _ _ | exact Gr.refl _)); done)⟩
end Go.Proofs.YtinopkmcddjgdaaGreatDoor
