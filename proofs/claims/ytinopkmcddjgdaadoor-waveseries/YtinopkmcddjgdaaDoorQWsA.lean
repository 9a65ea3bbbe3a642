/-
  wave.Series of what is no globe; the law WaveSeries: its walk.
-/
import Derived.Test.YtinopkmcddjgdaaDoorQWvK
import Derived.Test.YtinopkmcddjgdaaDoorQWvO
import Derived.Deep.RegionLaw
namespace Go.Proofs.YtinopkmcddjgdaaDoor
open Go.RowKit FB
attribute [local go_sem] run_store_float

theorem sb_sim {o p : Option Nat} {r q : Nat} (h : Sim o p) (hr : Got o r) (hq : Got p q) : SB r q := by
  rcases h with ⟨rfl, rfl⟩ | ⟨r', q', rfl, rfl, h⟩
  · exact fun w => same_got (o := none) hr hq w
  · obtain rfl : r = r' := hr
    obtain rfl : q = q' := hq
    rcases h with rfl | ⟨h1, h2⟩
    · exact fun w => same_got (o := some r) rfl rfl w
    · rcases h1 with rfl | rfl <;> rcases h2 with rfl | rfl
      · exact SB.zero
      · exact fun w => same_num _ _ ⟨false, 0, -1074, by decide +kernel⟩ (by decide +kernel) w
      · exact fun w => same_num _ _ ⟨true, 0, -1074, by decide +kernel⟩ (by decide +kernel) w
      · exact fun w => same_num _ _ ⟨true, 0, -1074, by decide +kernel⟩ (by decide +kernel) w
theorem S4.get {s s' : Four} (h : S4 s s') (k : Nat) : Sim (s.get k) (s'.get k) := by
  match k with
  | 0 => exact h.a
  | 1 => exact h.b
  | 2 => exact h.c
  | k + 3 => exact h.d
set_option maxHeartbeats 4000000 in
theorem series_no (g : Nat → Addr) (a f : Nat) (hg : okG a f = false) (w : World) (hl : Laid w g) : Calls Tryd.prog 5 #[.agg #[.float .f64 a, .float .f64 f]] w fun e w' => e = .returned (.tuple #[.float .f64 0, rV 0 0 0 0, rV 0 0 0 0, errV g 2]) ∧ Gr w w' := by
  have HL := hid hl
  have HV := hid (fun w hl => valid_no g a f hg w hl)
  clear hl hg
  go_enter Tryd.func5, Tryd.ntmps5
  go_wp2_with fail
  refine (HV.out _ (HL.out.below (Gr.out (by ((with_reducible repeat' (first | assumption | refine Gr.drew ?_ | refine Gr.drewN ?_ _ | refine Gr.alloc ?_ _ | refine Gr.set ?_ (by first | omega | (simp; omega)) _ _ | exact Gr.refl _)); done))))).mono ?_
  rintro e w1 ⟨rfl, hB⟩
  have RA : At w1 (w.heap.size + 1) (rL 0 0 0 0) := At.below hB ((At.newRow (w.alloc (.cells #[.float .f64 a, .float .f64 f] 31)) (rL 0 0 0 0) 26).alloc _ |> fun h => by simpa using h)
  have TA : At w1 (w.heap.size + 1 + 1) (rL 0 0 0 0) := At.below hB (At.newRow ((w.alloc (.cells #[.float .f64 a, .float .f64 f] 31)).alloc (.cells #[.float .f64 0, .float .f64 0, .float .f64 0, .float .f64 0] 26)) (rL 0 0 0 0) 26 |> fun h => by simpa using h)
  have HC : Gr w w1 := Gr.step (by ((with_reducible repeat' (first | assumption | refine Gr.drew ?_ | refine Gr.drewN ?_ _ | refine Gr.alloc ?_ _ | refine Gr.set ?_ (by first | omega | (simp; omega)) _ _ | exact Gr.refl _)); done)) hB
  clear hB HV HL
  obtain ⟨r0, r1, r2, r3⟩ := RA.c4
  obtain ⟨f0, f1, f2, f3⟩ := RA.f4
  obtain ⟨t0, t1, t2, t3⟩ := TA.c4
  obtain ⟨z0, z1, z2, z3⟩ := TA.f4
  go_upto_region 3 with fail
  go_region_held (fun w' => w'.cell? ⟨w.heap.size + 1, 0, none⟩ = some (.float .f64 0) ∧ w'.cell? ⟨w.heap.size + 1, 1, none⟩ = some (.float .f64 0) ∧ w'.cell? ⟨w.heap.size + 1, 2, none⟩ = some (.float .f64 0) ∧ w'.cell? ⟨w.heap.size + 1, 3, none⟩ = some (.float .f64 0) ∧ w'.cell? ⟨w.heap.size + 1 + 1, 0, none⟩ = some (.float .f64 0) ∧ w'.cell? ⟨w.heap.size + 1 + 1, 1, none⟩ = some (.float .f64 0) ∧ w'.cell? ⟨w.heap.size + 1 + 1, 2, none⟩ = some (.float .f64 0) ∧ w'.cell? ⟨w.heap.size + 1 + 1, 3, none⟩ = some (.float .f64 0))
    ((refine c44 (a := .float .f64 0) (b := .float .f64 0) (c := .float .f64 0) (d := .float .f64 0) (x := .float .f64 0) (y := .float .f64 0) (z := .float .f64 0) (u := .float .f64 0) ?_ ?_; all_goals ((with_reducible repeat' (first | assumption | exact At.new1 _ _ _ | exact At.new2 _ _ _ _ | exact At.new3 _ _ _ _ _ | exact At.new5 _ _ _ _ _ _ _ | exact At.nx1 _ _ _ | exact At.nx2 _ _ _ _ | exact At.nx3 _ _ _ _ _ | exact At.ny1 _ _ _ _ | exact At.ny2 _ _ _ _ _ | exact At.ny3 _ _ _ _ _ _ | exact At.nz1 _ _ _ _ _ | exact At.nz2 _ _ _ _ _ _ | exact At.nz3 _ _ _ _ _ _ _ | exact Has.new1 _ _ _ | exact Has.new2 _ _ _ _ | exact Has.new3 _ _ _ _ _ | exact Has.nx1 _ _ _ | exact Has.nx2 _ _ _ _ | exact Has.nx3 _ _ _ _ _ | exact Has.ny1 _ _ _ _ | exact Has.ny2 _ _ _ _ _ | exact Has.ny3 _ _ _ _ _ _ | exact Has.nz1 _ _ _ _ _ | exact Has.nz2 _ _ _ _ _ _ | exact Has.nz3 _ _ _ _ _ _ _ | refine At.fill4 ?_ _ _ _ _ | refine At.fill1 ?_ _ | refine At.fill2 ?_ _ _ | refine At.fill3 ?_ _ _ _ | refine At.swap ?_ (by first | omega | (simp; omega)) _ _ | refine At.alloc ?_ _ | refine At.drew ?_ | refine At.drewN ?_ _ | refine At.skip ?_ (by first | omega | (simp; omega)) _ _ | refine At.below (by assumption) ?_ | exact At.has (by assumption) rfl | refine Has.alloc ?_ _ | refine Has.drew ?_ | refine Has.drewN ?_ _ | refine Has.set ?_ _ _ _ | refine Has.below (by assumption) ?_)); done)))
    (fail)
  all_goals
    clear r0 r1 r2 r3 f0 f1 f2 f3 t0 t1 t2 t3 z0 z1 z2 z3
    generalize hw : World.drew _ = w31
    replace RA : At w31 (w.heap.size + 1) (rL 0 0 0 0) := by rw [← hw]; ((with_reducible repeat' (first | assumption | exact At.new1 _ _ _ | exact At.new2 _ _ _ _ | exact At.new3 _ _ _ _ _ | exact At.new5 _ _ _ _ _ _ _ | exact At.nx1 _ _ _ | exact At.nx2 _ _ _ _ | exact At.nx3 _ _ _ _ _ | exact At.ny1 _ _ _ _ | exact At.ny2 _ _ _ _ _ | exact At.ny3 _ _ _ _ _ _ | exact At.nz1 _ _ _ _ _ | exact At.nz2 _ _ _ _ _ _ | exact At.nz3 _ _ _ _ _ _ _ | exact Has.new1 _ _ _ | exact Has.new2 _ _ _ _ | exact Has.new3 _ _ _ _ _ | exact Has.nx1 _ _ _ | exact Has.nx2 _ _ _ _ | exact Has.nx3 _ _ _ _ _ | exact Has.ny1 _ _ _ _ | exact Has.ny2 _ _ _ _ _ | exact Has.ny3 _ _ _ _ _ _ | exact Has.nz1 _ _ _ _ _ | exact Has.nz2 _ _ _ _ _ _ | exact Has.nz3 _ _ _ _ _ _ _ | refine At.fill4 ?_ _ _ _ _ | refine At.fill1 ?_ _ | refine At.fill2 ?_ _ _ | refine At.fill3 ?_ _ _ _ | refine At.swap ?_ (by first | omega | (simp; omega)) _ _ | refine At.alloc ?_ _ | refine At.drew ?_ | refine At.drewN ?_ _ | refine At.skip ?_ (by first | omega | (simp; omega)) _ _ | refine At.below (by assumption) ?_ | exact At.has (by assumption) rfl | refine Has.alloc ?_ _ | refine Has.drew ?_ | refine Has.drewN ?_ _ | refine Has.set ?_ _ _ _ | refine Has.below (by assumption) ?_)); done)
    replace TA : At w31 (w.heap.size + 1 + 1) (rL 0 0 0 0) := by rw [← hw]; ((with_reducible repeat' (first | assumption | exact At.new1 _ _ _ | exact At.new2 _ _ _ _ | exact At.new3 _ _ _ _ _ | exact At.new5 _ _ _ _ _ _ _ | exact At.nx1 _ _ _ | exact At.nx2 _ _ _ _ | exact At.nx3 _ _ _ _ _ | exact At.ny1 _ _ _ _ | exact At.ny2 _ _ _ _ _ | exact At.ny3 _ _ _ _ _ _ | exact At.nz1 _ _ _ _ _ | exact At.nz2 _ _ _ _ _ _ | exact At.nz3 _ _ _ _ _ _ _ | exact Has.new1 _ _ _ | exact Has.new2 _ _ _ _ | exact Has.new3 _ _ _ _ _ | exact Has.nx1 _ _ _ | exact Has.nx2 _ _ _ _ | exact Has.nx3 _ _ _ _ _ | exact Has.ny1 _ _ _ _ | exact Has.ny2 _ _ _ _ _ | exact Has.ny3 _ _ _ _ _ _ | exact Has.nz1 _ _ _ _ _ | exact Has.nz2 _ _ _ _ _ _ | exact Has.nz3 _ _ _ _ _ _ _ | refine At.fill4 ?_ _ _ _ _ | refine At.fill1 ?_ _ | refine At.fill2 ?_ _ _ | refine At.fill3 ?_ _ _ _ | refine At.swap ?_ (by first | omega | (simp; omega)) _ _ | refine At.alloc ?_ _ | refine At.drew ?_ | refine At.drewN ?_ _ | refine At.skip ?_ (by first | omega | (simp; omega)) _ _ | refine At.below (by assumption) ?_ | exact At.has (by assumption) rfl | refine Has.alloc ?_ _ | refine Has.drew ?_ | refine Has.drewN ?_ _ | refine Has.set ?_ _ _ _ | refine Has.below (by assumption) ?_)); done)
    replace HC : Gr w w31 := by rw [← hw]; ((with_reducible repeat' (first | assumption | refine Gr.drew ?_ | refine Gr.drewN ?_ _ | refine Gr.alloc ?_ _ | refine Gr.set ?_ (by first | omega | (simp; omega)) _ _ | exact Gr.refl _)); done)
    clear hw
    obtain ⟨r0, r1, r2, r3⟩ := RA.c4
    obtain ⟨t0, t1, t2, t3⟩ := TA.c4
    go_wp2
    exact bodyPost_ret (v := .tuple #[.float .f64 0, rV 0 0 0 0, rV 0 0 0 0, errV g 2]) (by simp [results, Tryd.results5, go_sem, r0, r1, r2, r3, t0, t1, t2, t3]) rfl ⟨rfl, by ((with_reducible repeat' (first | assumption | refine Gr.drew ?_ | refine Gr.drewN ?_ _ | refine Gr.alloc ?_ _ | refine Gr.set ?_ (by first | omega | (simp; omega)) _ _ | exact Gr.refl _)); done)⟩
end Go.Proofs.YtinopkmcddjgdaaDoor
