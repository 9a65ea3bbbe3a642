/-
  mercatorref2.GreatOf.
-/
import Derived.Test.YtmiamfnnccjmeacPgC
import Derived.Deep.QuietTactic
import Derived.BigQuiet
import Derived.Deep.DrawnRows
namespace Go.Proofs.Ytmiamfnnccjmeac
open Go.RowKit FB
attribute [local go_sem] run_store_float
attribute [local go_sem ↓] Go.wp_at_zero Go.wp_at_succ

theorem c33 {W : World} {B C : Nat} {a b c d e f : Value} (h : At W B [a, b, c]) (k : At W C [d, e, f]) : W.cell? ⟨B, 0, none⟩ = some a ∧ W.cell? ⟨B, 1, none⟩ = some b ∧ W.cell? ⟨B, 2, none⟩ = some c ∧ W.cell? ⟨C, 0, none⟩ = some d ∧ W.cell? ⟨C, 1, none⟩ = some e ∧ W.cell? ⟨C, 2, none⟩ = some f := ⟨h.c3.1, h.c3.2.1, h.c3.2.2, k.c3.1, k.c3.2.1, k.c3.2.2⟩
set_option maxRecDepth 4000 in
set_option maxHeartbeats 4000000 in
theorem greatOf_any (a b c d : Int) (w : World) : Calls Try.prog 5 #[.agg #[.int .i64 a, .int .i64 b], .agg #[.int .i64 c, .int .i64 d]] w fun e w' => e = .returned (.int .i64 (greatR a b c d)) ∧ Below w.heap.size w w' := by
  have hp := (pt_eqs a b).2.2.2.2.2.1
  have hq := (pt_eqs c d).2.2.2.2.2.1
  unfold greatR
  have HP := hid (fun w => pointOf_any a b w)
  have HQ := hid (fun w => pointOf_any c d w)
  generalize prX a b = x1 at *
  generalize prY a b = y1 at *
  generalize prZ b = z1 at *
  generalize prX c d = x2 at *
  generalize prY c d = y2 at *
  generalize prZ d = z2 at *
  have N : ∀ {x}, Le 1251 x → Num x := fun h => h.num (by decide) (by decide)
  have M : ∀ {a b : Nat}, Le 1251 a → Le 1251 b → Num (FM a b) := fun h k => (m_le' h k).num (by decide) (by decide)
  have e1 := fun w => hmul (mul_num (N hp.y) (N hq.z)) w
  have e4 := fun w => hmul (mul_num (N hp.z) (N hq.x)) w
  have e7 := fun w => hmul (mul_num (N hp.x) (N hq.y)) w
  have f1 := fun w => hmul (mul_num (N hp.x) (N hq.x)) w
  have L1 := hid (fun w => less_num (mul_num (N hp.z) (N hq.y)) (sub_num (M hp.y hq.z) (M hp.z hq.y)) w)
  have L2 := hid (fun w => less_num (mul_num (N hp.x) (N hq.z)) (sub_num (M hp.z hq.x) (M hp.x hq.z)) w)
  have L3 := hid (fun w => less_num (mul_num (N hp.y) (N hq.x)) (sub_num (M hp.x hq.y) (M hp.y hq.x)) w)
  have P1 := hid (fun w => plus_num (mul_num (N hp.y) (N hq.y)) (add_num (M hp.x hq.x) (M hp.y hq.y)) w)
  have P2 := hid (fun w => plus_num (mul_num (N hp.z) (N hq.z)) (add_num ((gd_le hp hq).2.num (by decide) (by decide)) (M hp.z hq.z)) w)
  have GL := hid (glen_eq hp hq)
  have GA := hid (fun w => angle2_any (gL x1 y1 z1 x2 y2 z2) (gD x1 y1 z1 x2 y2 z2) (gl_eq hp hq).2 (gd_le hp hq).1.1 w)
  unfold gD at GA
  clear N M hp hq
  go_enter Try.func5, Try.ntmps5
  go_wp2_with fail
  refine (HP.out _).mono ?_
  rintro e w1 ⟨rfl, hB⟩
  have HC := Gr.step (((Gr.refl w).alloc (.cells #[.int .i64 a, .int .i64 b] 23)).alloc (.cells #[.int .i64 c, .int .i64 d] 23)) hB
  have QA := At.below hB (At.nx2 (W := w) (.cells #[.int .i64 a, .int .i64 b] 23) (.int .i64 c) (.int .i64 d) 23)
  clear hB
  obtain ⟨q0, q1⟩ := QA.c2
  have l0 := QA.lt
  have n0 : ¬ w.heap.size + 1 = w1.heap.size := by omega
  go_wp2_with fail
  refine (HQ.out _).mono ?_
  rintro e w2 ⟨rfl, hB⟩
  replace HC := Gr.step (HC.alloc (.cells #[.float .f64 x1, .float .f64 y1, .float .f64 z1] 28)) hB
  have A1 := At.below hB (At.new3 w1 (.float .f64 x1) (.float .f64 y1) (.float .f64 z1) 28)
  clear q0 q1 l0 n0 QA
  replace A1 := A1.alloc (.cells #[.float .f64 x2, .float .f64 y2, .float .f64 z2] 28)
  have A2 := At.new3 w2 (.float .f64 x2) (.float .f64 y2) (.float .f64 z2) 28
  have l1 : w1.heap.size < w2.heap.size := by have := hB.size; simp at this; omega
  clear hB
  have n1 : ¬ w1.heap.size = w2.heap.size := by omega
  obtain ⟨b0, b1, b2⟩ := A1.c3
  go_upto_region 6 with fail
  go_cut [10] from 31 to 49 (fun s10 wx => ∃ B, s10 = .pointer (some ⟨B, 0, none⟩) ∧ At wx B [.float .f64 (FS (FM y1 z2) (FM z1 y2)), .float .f64 (FS (FM z1 x2) (FM x1 z2)), .float .f64 (FS (FM x1 y2) (FM y1 x2))] ∧ At wx w1.heap.size [.float .f64 x1, .float .f64 y1, .float .f64 z1] ∧ At wx w2.heap.size [.float .f64 x2, .float .f64 y2, .float .f64 z2] ∧ Gr w wx)
  case first =>
    replace HC := HC.alloc (.cells #[.float .f64 x2, .float .f64 y2, .float .f64 z2] 28)
    have A3 := A2
    go_region_held (fun w' => w'.cell? ⟨w1.heap.size, 0, none⟩ = some (.float .f64 x1) ∧ w'.cell? ⟨w1.heap.size, 1, none⟩ = some (.float .f64 y1) ∧ w'.cell? ⟨w1.heap.size, 2, none⟩ = some (.float .f64 z1) ∧ w'.cell? ⟨w2.heap.size, 0, none⟩ = some (.float .f64 x2) ∧ w'.cell? ⟨w2.heap.size, 1, none⟩ = some (.float .f64 y2) ∧ w'.cell? ⟨w2.heap.size, 2, none⟩ = some (.float .f64 z2))
      ((refine c33 (a := .float .f64 x1) (b := .float .f64 y1) (c := .float .f64 z1) (d := .float .f64 x2) (e := .float .f64 y2) (f := .float .f64 z2) ?_ ?_; all_goals ((with_reducible repeat' (first | assumption | exact At.new1 _ _ _ | exact At.new2 _ _ _ _ | exact At.new3 _ _ _ _ _ | exact At.nx1 _ _ _ | exact At.nx2 _ _ _ _ | exact At.nx3 _ _ _ _ _ | exact At.ny1 _ _ _ _ | exact At.ny2 _ _ _ _ _ | exact At.ny3 _ _ _ _ _ _ | exact At.nz1 _ _ _ _ _ | exact At.nz2 _ _ _ _ _ _ | exact At.nz3 _ _ _ _ _ _ _ | exact Has.new1 _ _ _ | exact Has.new2 _ _ _ _ | exact Has.new3 _ _ _ _ _ | exact Has.nx1 _ _ _ | exact Has.nx2 _ _ _ _ | exact Has.nx3 _ _ _ _ _ | exact Has.ny1 _ _ _ _ | exact Has.ny2 _ _ _ _ _ | exact Has.ny3 _ _ _ _ _ _ | exact Has.nz1 _ _ _ _ _ | exact Has.nz2 _ _ _ _ _ _ | exact Has.nz3 _ _ _ _ _ _ _ | refine At.fill1 ?_ _ | refine At.fill2 ?_ _ _ | refine At.fill3 ?_ _ _ _ | refine At.swap ?_ (by first | omega | (simp; omega)) _ _ | refine At.alloc ?_ _ | refine At.drew ?_ | refine At.skip ?_ (by first | omega | (simp; omega)) _ _ | refine At.below (by assumption) ?_ | refine Has.alloc ?_ _ | refine Has.drew ?_ | refine Has.set ?_ _ _ _ | refine Has.below (by assumption) ?_)); done)))
      ((first
        | (go_at_call 10; (with_reducible first | refine (L1.out _).mono ?_ | refine (L2.out _).mono ?_ | refine (L3.out _).mono ?_); rintro e w5 ⟨rfl, rfl⟩)))
    all_goals
      go_wp2_with fail
      go_meet
      refine ⟨_, rfl, ?_, ?_, ?_, ?_⟩
    all_goals first | ((with_reducible repeat' (first | assumption | exact At.new1 _ _ _ | exact At.new2 _ _ _ _ | exact At.new3 _ _ _ _ _ | exact At.nx1 _ _ _ | exact At.nx2 _ _ _ _ | exact At.nx3 _ _ _ _ _ | exact At.ny1 _ _ _ _ | exact At.ny2 _ _ _ _ _ | exact At.ny3 _ _ _ _ _ _ | exact At.nz1 _ _ _ _ _ | exact At.nz2 _ _ _ _ _ _ | exact At.nz3 _ _ _ _ _ _ _ | exact Has.new1 _ _ _ | exact Has.new2 _ _ _ _ | exact Has.new3 _ _ _ _ _ | exact Has.nx1 _ _ _ | exact Has.nx2 _ _ _ _ | exact Has.nx3 _ _ _ _ _ | exact Has.ny1 _ _ _ _ | exact Has.ny2 _ _ _ _ _ | exact Has.ny3 _ _ _ _ _ _ | exact Has.nz1 _ _ _ _ _ | exact Has.nz2 _ _ _ _ _ _ | exact Has.nz3 _ _ _ _ _ _ _ | refine At.fill1 ?_ _ | refine At.fill2 ?_ _ _ | refine At.fill3 ?_ _ _ _ | refine At.swap ?_ (by first | omega | (simp; omega)) _ _ | refine At.alloc ?_ _ | refine At.drew ?_ | refine At.skip ?_ (by first | omega | (simp; omega)) _ _ | refine At.below (by assumption) ?_ | refine Has.alloc ?_ _ | refine Has.drew ?_ | refine Has.set ?_ _ _ _ | refine Has.below (by assumption) ?_)); done) | ((with_reducible repeat' (first | assumption | refine Gr.drew ?_ | refine Gr.alloc ?_ _ | refine Gr.set ?_ (by first | omega | (simp; omega)) _ _ | exact Gr.refl _)); done)
  case rest =>
    clear A1 A2 b0 b1 b2 n1 HC
    obtain ⟨B, rfl, a0, a1, a2, HC⟩ := hcut
    obtain ⟨b0, b1, b2⟩ := a1.c3
    obtain ⟨c0, c1, c2⟩ := a2.c3
    obtain ⟨d0, d1, d2⟩ := a0.c3
    go_upto_region 8 with fail
    go_quiet ((go_at_call 11; (with_reducible first | exact Calls.quiet_of_same (P1.out _) | exact Calls.quiet_of_same (P2.out _))))
    go_wp2_with fail
    refine (lengthOf_any _ _ _ _).mono ?_
    rintro e w1 ⟨r, rfl, hr, hB⟩
    obtain rfl : r = gL x1 y1 z1 x2 y2 z2 := by have h := GL.out; unfold gC at h; rw [h] at hr; exact hr
    replace HC : Gr w w1 := Gr.step (HC.drewN _) hB
    clear hB hr
    go_wp2_with fail
    refine (GA.out _).mono ?_
    rintro e w2 ⟨rfl, hB⟩
    replace HC : Gr w w2 := Gr.step HC hB
    go_wp2
    go_ret
    exact ⟨rfl, HC⟩
end Go.Proofs.Ytmiamfnnccjmeac
