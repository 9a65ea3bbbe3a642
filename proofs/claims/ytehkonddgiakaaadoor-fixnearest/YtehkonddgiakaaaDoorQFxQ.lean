/-
  fix.Solve, of any ranges; the law's own trial.
-/
import Derived.Test.YtehkonddgiakaaaDoorQFxN
namespace Go.Proofs.YtehkonddgiakaaaDoor
open Go.RowKit
attribute [local go_sem ↓] Go.wp_at_zero Go.wp_at_succ

theorem sp_ex (g : Nat → Addr) (l : List Rg) : ∃ X Y E, SP g l X Y E := by
  unfold SP
  by_cases h : rerr g l = .nilIface
  · by_cases h0 : sOv l = 0
    · exact ⟨_, _, _, .inr (.inl ⟨h, h0, rfl, rfl, rfl⟩)⟩
    · cases h1 : qf (sX l) (sOv l)
      · exact ⟨_, _, _, .inr (.inr (.inl ⟨h, h0, rfl, rfl, rfl, rfl⟩))⟩
      · cases h2 : qf (sY l) (sOv l)
        · exact ⟨_, _, _, .inr (.inr (.inr (.inl ⟨h, h0, rfl, rfl, rfl, rfl, rfl⟩)))⟩
        · exact ⟨_, _, _, .inr (.inr (.inr (.inr ⟨h, h0, rfl, rfl, rfl, rfl, rfl⟩)))⟩
  · exact ⟨_, _, _, .inl ⟨h, rfl, rfl, rfl⟩⟩
theorem solve_all (g : Nat → Addr) (ad : Option Addr) (b cap : Nat) (l : List Rg) (X Y E : Value) (w : World) (h : RSl 30 w ad b cap l) (ll : l.length ≤ 1000) (hl : Laid w g) (hp : SP g l X Y E) : Calls Tryd.prog 7 #[.slice ad l.length cap] w fun e w' => e = .returned (.tuple #[X, Y, E]) ∧ Gr w w' := by
  by_cases hr : rerr g l = .nilIface
  · exact solve_ok g ad b cap l X Y E w h hl hr hp
  · rcases hp with ⟨_, rfl, rfl, rfl⟩ | ⟨k, _⟩ | ⟨k, _⟩ | ⟨k, _⟩ | ⟨k, _⟩
    · exact solve_bad g ad b cap l w h ll hl hr
    all_goals exact absurd k hr
/-- The law's own three ranges. -/
def tri : List Rg := [⟨0, 0, 25⟩, ⟨6, 0, 25⟩, ⟨0, 8, 25⟩]
theorem tri_sp (g : Nat → Addr) : SP g tri (.agg #[.int .i64 3, .int .i64 1]) (.agg #[.int .i64 4, .int .i64 1]) .nilIface := by
  have e0 : sOv tri = 36864 := by decide +kernel
  have e1 : sX tri = 110592 := by decide +kernel
  have e2 : sY tri = 147456 := by decide +kernel
  have q1 : qf 110592 36864 = true := by decide +kernel
  have q2 : qf 147456 36864 = true := by decide +kernel
  have q3 : qx 110592 36864 = 3 := by decide +kernel
  have q4 : qy 110592 36864 = 1 := by decide +kernel
  have q5 : qx 147456 36864 = 4 := by decide +kernel
  have q6 : qy 147456 36864 = 1 := by decide +kernel
  have hr : rerr g tri = .nilIface := by
    unfold rerr tri
    rw [if_neg (by simp), if_pos (by decide)]
  refine .inr (.inr (.inr (.inr ⟨hr, ?_, ?_, ?_, ?_, ?_, rfl⟩)))
  · rw [e0]; decide
  · rw [e0, e1]; exact q1
  · rw [e0, e2]; exact q2
  · rw [e0, e1, q3, q4]
  · rw [e0, e2, q5, q6]
def r9 : Array Value := #[.int .i64 0, .int .i64 0, .int .i64 25, .int .i64 6, .int .i64 0, .int .i64 25, .int .i64 0, .int .i64 8, .int .i64 25]
theorem rsl_tri {W : World} {B : Nat} (hB : B = W.heap.size) (t : Nat) : RSl 30 (W.alloc (.cells r9 t)) (some ⟨B, 0, none⟩) B 3 tri := by
  subst hB
  refine ⟨.inl ⟨fun i hi => ?_, by simp⟩, fun k hk w => rindex 30 (.inl rfl) _ 3 3 k hk w⟩
  match i, hi with
  | 0, _ => simp [r9, tri, go_sem]
  | 1, _ => simp [r9, tri, go_sem]
  | 2, _ => simp [r9, tri, go_sem]
set_option maxRecDepth 8000 in
set_option maxHeartbeats 4000000 in
theorem fixes_any (g : Nat → Addr) (w : World) (hl : Laid w g) : Calls Tryd.prog 6 #[] w fun e w' => e = .returned (.bool true) ∧ Gr w w' := by
  have HS := hidb (fun W B (hB : B = W.heap.size) t hl => solve_all g _ B 3 tri _ _ _ _ (rsl_tri (W := W) (B := B) hB t) (by decide) hl (tri_sp g))
  have HL := hidb hl
  clear hl
  go_enter Tryd.func6, Tryd.ntmps6
  go_wp2_with fail
  have HC := (Gr.refl w).alloc (.cells r9 61)
  refine (HS.out w _ rfl 61 (HL.out.below HC.out)).mono ?_
  rintro e w1 ⟨rfl, hB⟩
  replace HC := Gr.step HC hB
  clear hB HS HL
  have XA := (At.new2 w1 (.int .i64 3) (.int .i64 1) 25).alloc (.cells #[.int .i64 4, .int .i64 1] 25)
  have YA := At.nx2 (W := w1) (.cells #[.int .i64 3, .int .i64 1] 25) (.int .i64 4) (.int .i64 1) 25
  replace HC := (HC.alloc (.cells #[.int .i64 3, .int .i64 1] 25)).alloc (.cells #[.int .i64 4, .int .i64 1] 25)
  obtain ⟨x0, x1⟩ := XA.c2
  obtain ⟨y0, y1⟩ := YA.c2
  go_wp2
  go_ret
  exact ⟨rfl, HC⟩
end Go.Proofs.YtehkonddgiakaaaDoor
