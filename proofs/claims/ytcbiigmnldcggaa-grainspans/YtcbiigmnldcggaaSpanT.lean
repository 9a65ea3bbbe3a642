/-
  grain.told.
-/
import Derived.Test.YtcbiigmnldcggaaSpanE
import Derived.Test.YtcbiigmnldcggaaFltN
import Derived.Deep.RegionHeld
namespace Go.Proofs.Ytcbiigmnldcggaa
open Go.RowKit FB
attribute [local go_sem] run_store_float

theorem told_no (a b : Nat) (ha : W64 a) (hb : W64 b) (h : spB a b = false) (w : World) : Calls Try.prog 19 #[.agg #[.float .f64 a, .float .f64 b]] w fun e w' => e = .returned (.tuple #[.agg #[.float .f64 0, .float .f64 0], .bool false]) ∧ Below w.heap.size w w' := by
  go_enter Try.func19, Try.ntmps19
  go_wp2_with fail
  refine (right_any _ _ (by assumption) (by assumption) _).mono ?_
  rintro e w1 ⟨rfl, hB⟩
  obtain ⟨hc, hf⟩ := bcell hB
  go_wp2
  exact bodyPost_ret (v := .tuple #[.agg #[.float .f64 0, .float .f64 0], .bool false]) (by simp [results, Try.results19, go_sem, hc]) rfl ⟨rfl, ((bt (((Below.refl _ _).alloc (Nat.le_refl _) _).alloc (by simp) _) hB).setCell (by simp) _).setCell (by simp) _⟩
set_option maxHeartbeats 1000000 in
theorem told_yes (a b : Nat) (ha : W64 a) (hb : W64 b) (h : spB a b = true) (w : World) : Calls Try.prog 19 #[.agg #[.float .f64 a, .float .f64 b]] w fun e w' => e = .returned (.tuple #[.agg #[.float .f64 (uz a), .float .f64 (uz b)], .bool true]) ∧ Below w.heap.size w w' := by
  go_enter Try.func19, Try.ntmps19
  go_wp2_with fail
  refine (right_any _ _ (by assumption) (by assumption) _).mono ?_
  rintro e w1 ⟨rfl, hB⟩
  obtain ⟨hc, hf⟩ := bcell hB
  go_wp2
  go_region_held (fun w' => w'.cell? ⟨w.heap.size, 0, none⟩ = some (.float .f64 a) ∧ w'.cell? ⟨w.heap.size, 1, none⟩ = some (.float .f64 b))
    (first | assumption | (simp [go_sem, hc]; done))
    ((go_at_call 35; refine (uz_any _ _).mono ?_; rintro e wa ⟨rfl, rfl⟩))
  go_wp2
  exact bodyPost_ret (v := .tuple #[.agg #[.float .f64 (uz a), .float .f64 (uz b)], .bool true]) (by simp [results, Try.results19, go_sem, hc]) rfl ⟨rfl, (((bt (((Below.refl _ _).alloc (Nat.le_refl _) _).alloc (by simp) _) hB).setCell (by simp) _).setCell (by simp) _).drew⟩
end Go.Proofs.Ytcbiigmnldcggaa
