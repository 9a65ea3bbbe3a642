/-
  path.point.
-/
import Derived.Test.YtmiamfnnccjmeacPgA
import Derived.Deep.DrawnRows
namespace Go.Proofs.Ytmiamfnnccjmeac
open Go.RowKit FB
attribute [local go_sem] run_store_float
attribute [local go_sem ↓] Go.wp_at_zero Go.wp_at_succ

set_option maxRecDepth 4000 in
set_option maxHeartbeats 4000000 in
theorem point_any (lon lat : Int) (w : World) : Calls Try.prog 6 #[.agg #[.int .i64 lon, .int .i64 lat]] w fun e w' => e = .returned (.agg #[.float .f64 (ptX lon lat), .float .f64 (ptY lon lat), .float .f64 (ptZ lat)]) ∧ Below w.heap.size w w' ∧ w.heap.size < w'.heap.size := by
  obtain ⟨q1, q2, _⟩ := pt_eqs lon lat
  have e1 := fun w => hmul q1 w
  have e2 := fun w => hmul q2 w
  clear q1 q2
  go_enter Try.func6, Try.ntmps6
  go_upto_region 1 with fail
  go_cut [3, 4] from 5 to 10 (fun s3 s4 wx => ∃ B C, s3 = .pointer (some ⟨B, 0, none⟩) ∧ s4 = .pointer (some ⟨C, 0, none⟩) ∧ At wx B [.float .f64 (uz (sinV (nrm lon))), .float .f64 (uz (cosV (nrm lon)))] ∧ At wx C [.float .f64 (uz (sinV (nrm lat))), .float .f64 (uz (cosV (nrm lat)))] ∧ Gr w wx ∧ Has wx (w.heap.size + 1) 3)
  case first =>
    have HC := ((Gr.refl w).alloc (.cells #[.int .i64 lon, .int .i64 lat] 23)).alloc (.cells #[.float .f64 0, .float .f64 0, .float .f64 0] 28)
    have PA := ((At.new2 w (.int .i64 lon) (.int .i64 lat) 23).alloc (.cells #[.float .f64 0, .float .f64 0, .float .f64 0] 28))
    have RA : Has ((w.alloc (.cells #[.int .i64 lon, .int .i64 lat] 23)).alloc (.cells #[.float .f64 0, .float .f64 0, .float .f64 0] 28)) (w.heap.size + 1) 3 := (At.nx3 _ _ _ _ _).has rfl
    have lt2 : ∀ n : Nat, n < n + 1 + 1 := fun n => by omega
    go_region_held (fun w' => w'.cell? ⟨w.heap.size, 0, none⟩ = some (.int .i64 lon) ∧ w'.cell? ⟨w.heap.size, 1, none⟩ = some (.int .i64 lat))
      ((refine At.c2 (a := .int .i64 lon) (b := .int .i64 lat) ?_; ((with_reducible repeat' (first | assumption | exact At.new1 _ _ _ | exact At.new2 _ _ _ _ | exact At.new3 _ _ _ _ _ | exact At.nx1 _ _ _ | exact At.nx2 _ _ _ _ | exact At.nx3 _ _ _ _ _ | exact At.ny1 _ _ _ _ | exact At.ny2 _ _ _ _ _ | exact At.ny3 _ _ _ _ _ _ | exact At.nz1 _ _ _ _ _ | exact At.nz2 _ _ _ _ _ _ | exact At.nz3 _ _ _ _ _ _ _ | exact Has.new1 _ _ _ | exact Has.new2 _ _ _ _ | exact Has.new3 _ _ _ _ _ | exact Has.nx1 _ _ _ | exact Has.nx2 _ _ _ _ | exact Has.nx3 _ _ _ _ _ | exact Has.ny1 _ _ _ _ | exact Has.ny2 _ _ _ _ _ | exact Has.ny3 _ _ _ _ _ _ | exact Has.nz1 _ _ _ _ _ | exact Has.nz2 _ _ _ _ _ _ | exact Has.nz3 _ _ _ _ _ _ _ | refine At.fill1 ?_ _ | refine At.fill2 ?_ _ _ | refine At.fill3 ?_ _ _ _ | refine At.swap ?_ (by first | omega | (simp; omega)) _ _ | refine At.alloc ?_ _ | refine At.drew ?_ | refine At.skip ?_ (by first | omega | (simp; omega)) _ _ | refine At.below (by assumption) ?_ | refine Has.alloc ?_ _ | refine Has.drew ?_ | refine Has.set ?_ _ _ _ | refine Has.below (by assumption) ?_)); done)))
      ((first
        | (go_at_call 14; refine (sidesOf_any _ _).mono ?_; rintro e w5 ⟨rfl, hB5, hs5⟩; obtain ⟨hc5, hf5⟩ := mcell hB5; obtain ⟨ha5, hn5, hm5⟩ := bless hs5; (try simp at hs5); have hz5 : w.heap.size + 1 + 1 < w5.heap.size := (by omega); replace HC : Gr w w5 := Gr.step (by ((with_reducible repeat' (first | assumption | refine Gr.drew ?_ | refine Gr.alloc ?_ _ | refine Gr.set ?_ (by first | omega | (simp; omega)) _ _ | exact Gr.refl _)); done)) hB5; replace PA : At w5 w.heap.size [.int .i64 lon, .int .i64 lat] := At.below hB5 (by ((with_reducible repeat' (first | assumption | exact At.new1 _ _ _ | exact At.new2 _ _ _ _ | exact At.new3 _ _ _ _ _ | exact At.nx1 _ _ _ | exact At.nx2 _ _ _ _ | exact At.nx3 _ _ _ _ _ | exact At.ny1 _ _ _ _ | exact At.ny2 _ _ _ _ _ | exact At.ny3 _ _ _ _ _ _ | exact At.nz1 _ _ _ _ _ | exact At.nz2 _ _ _ _ _ _ | exact At.nz3 _ _ _ _ _ _ _ | exact Has.new1 _ _ _ | exact Has.new2 _ _ _ _ | exact Has.new3 _ _ _ _ _ | exact Has.nx1 _ _ _ | exact Has.nx2 _ _ _ _ | exact Has.nx3 _ _ _ _ _ | exact Has.ny1 _ _ _ _ | exact Has.ny2 _ _ _ _ _ | exact Has.ny3 _ _ _ _ _ _ | exact Has.nz1 _ _ _ _ _ | exact Has.nz2 _ _ _ _ _ _ | exact Has.nz3 _ _ _ _ _ _ _ | refine At.fill1 ?_ _ | refine At.fill2 ?_ _ _ | refine At.fill3 ?_ _ _ _ | refine At.swap ?_ (by first | omega | (simp; omega)) _ _ | refine At.alloc ?_ _ | refine At.drew ?_ | refine At.skip ?_ (by first | omega | (simp; omega)) _ _ | refine At.below (by assumption) ?_ | refine Has.alloc ?_ _ | refine Has.drew ?_ | refine Has.set ?_ _ _ _ | refine Has.below (by assumption) ?_)); done)); replace RA : Has w5 (w.heap.size + 1) 3 := Has.below hB5 (by ((with_reducible repeat' (first | assumption | exact At.new1 _ _ _ | exact At.new2 _ _ _ _ | exact At.new3 _ _ _ _ _ | exact At.nx1 _ _ _ | exact At.nx2 _ _ _ _ | exact At.nx3 _ _ _ _ _ | exact At.ny1 _ _ _ _ | exact At.ny2 _ _ _ _ _ | exact At.ny3 _ _ _ _ _ _ | exact At.nz1 _ _ _ _ _ | exact At.nz2 _ _ _ _ _ _ | exact At.nz3 _ _ _ _ _ _ _ | exact Has.new1 _ _ _ | exact Has.new2 _ _ _ _ | exact Has.new3 _ _ _ _ _ | exact Has.nx1 _ _ _ | exact Has.nx2 _ _ _ _ | exact Has.nx3 _ _ _ _ _ | exact Has.ny1 _ _ _ _ | exact Has.ny2 _ _ _ _ _ | exact Has.ny3 _ _ _ _ _ _ | exact Has.nz1 _ _ _ _ _ | exact Has.nz2 _ _ _ _ _ _ | exact Has.nz3 _ _ _ _ _ _ _ | refine At.fill1 ?_ _ | refine At.fill2 ?_ _ _ | refine At.fill3 ?_ _ _ _ | refine At.swap ?_ (by first | omega | (simp; omega)) _ _ | refine At.alloc ?_ _ | refine At.drew ?_ | refine At.skip ?_ (by first | omega | (simp; omega)) _ _ | refine At.below (by assumption) ?_ | refine Has.alloc ?_ _ | refine Has.drew ?_ | refine Has.set ?_ _ _ _ | refine Has.below (by assumption) ?_)); done)))))
    all_goals
      go_wp2_with fail
      go_meet
      refine ⟨_, _, rfl, rfl, ?_, ?_, ?_, ?_⟩
    all_goals first | ((with_reducible repeat' (first | assumption | exact At.new1 _ _ _ | exact At.new2 _ _ _ _ | exact At.new3 _ _ _ _ _ | exact At.nx1 _ _ _ | exact At.nx2 _ _ _ _ | exact At.nx3 _ _ _ _ _ | exact At.ny1 _ _ _ _ | exact At.ny2 _ _ _ _ _ | exact At.ny3 _ _ _ _ _ _ | exact At.nz1 _ _ _ _ _ | exact At.nz2 _ _ _ _ _ _ | exact At.nz3 _ _ _ _ _ _ _ | exact Has.new1 _ _ _ | exact Has.new2 _ _ _ _ | exact Has.new3 _ _ _ _ _ | exact Has.nx1 _ _ _ | exact Has.nx2 _ _ _ _ | exact Has.nx3 _ _ _ _ _ | exact Has.ny1 _ _ _ _ | exact Has.ny2 _ _ _ _ _ | exact Has.ny3 _ _ _ _ _ _ | exact Has.nz1 _ _ _ _ _ | exact Has.nz2 _ _ _ _ _ _ | exact Has.nz3 _ _ _ _ _ _ _ | refine At.fill1 ?_ _ | refine At.fill2 ?_ _ _ | refine At.fill3 ?_ _ _ _ | refine At.swap ?_ (by first | omega | (simp; omega)) _ _ | refine At.alloc ?_ _ | refine At.drew ?_ | refine At.skip ?_ (by first | omega | (simp; omega)) _ _ | refine At.below (by assumption) ?_ | refine Has.alloc ?_ _ | refine Has.drew ?_ | refine Has.set ?_ _ _ _ | refine Has.below (by assumption) ?_)); done) | ((with_reducible repeat' (first | assumption | refine Gr.drew ?_ | refine Gr.alloc ?_ _ | refine Gr.set ?_ (by first | omega | (simp; omega)) _ _ | exact Gr.refl _)); done)
  case rest =>
    obtain ⟨B, C, rfl, rfl, a1, a2, HC, RA⟩ := hcut
    obtain ⟨b0, b1⟩ := a1.c2
    obtain ⟨c0, c1⟩ := a2.c2
    obtain ⟨r1, r2, r3, RB⟩ := Has.three RA
    obtain ⟨d0, d1, d2⟩ := RB.c3
    obtain ⟨f0, f1, f2⟩ := RB.f3
    have lt := RB.lt
    go_wp2
    exact bodyPost_ret (v := .agg #[.float .f64 (ptX lon lat), .float .f64 (ptY lon lat), .float .f64 (ptZ lat)]) (by simp [results, Try.results6, go_sem, d0, d1, d2]; rfl) rfl ⟨rfl, ((HC.set (by omega) _ _).set (by omega) _ _).set (by omega) _ _, by simp; omega⟩
end Go.Proofs.Ytmiamfnnccjmeac
