/-
  path.Great.
-/
import Derived.Test.YtmiamfnnccjmeacPgB
import Derived.Deep.DrawnRows
namespace Go.Proofs.Ytmiamfnnccjmeac
open Go.RowKit FB
attribute [local go_sem] run_store_float
attribute [local go_sem ↓] Go.wp_at_zero Go.wp_at_succ

theorem c22 {W : World} {B C : Nat} {a b c d : Value} (h : At W B [a, b]) (k : At W C [c, d]) : W.cell? ⟨B, 0, none⟩ = some a ∧ W.cell? ⟨B, 1, none⟩ = some b ∧ W.cell? ⟨C, 0, none⟩ = some c ∧ W.cell? ⟨C, 1, none⟩ = some d := ⟨h.c2.1, h.c2.2, k.c2.1, k.c2.2⟩
/-- The angle between two places, as the program has it, and as the document's answer has it. -/
def greatV (a b c d : Int) : Int := gW (ptX a b) (ptY a b) (ptZ b) (ptX c d) (ptY c d) (ptZ d)
def greatR (a b c d : Int) : Int := gW (prX a b) (prY a b) (prZ b) (prX c d) (prY c d) (prZ d)
set_option maxRecDepth 4000 in
set_option maxHeartbeats 4000000 in
theorem great_any (a b c d : Int) (w : World) : Calls Try.prog 4 #[.agg #[.int .i64 a, .int .i64 b], .agg #[.int .i64 c, .int .i64 d]] w fun e w' => e = .returned (.int .i64 (greatV a b c d)) ∧ Below w.heap.size w w' := by
  have hp := (pt_eqs a b).2.2.2.2.1
  have hq := (pt_eqs c d).2.2.2.2.1
  unfold greatV
  have HP := hid (fun w => point_any a b w)
  have HQ := hid (fun w => point_any c d w)
  generalize ptX a b = x1 at *
  generalize ptY a b = y1 at *
  generalize ptZ b = z1 at *
  generalize ptX c d = x2 at *
  generalize ptY c d = y2 at *
  generalize ptZ d = z2 at *
  have N : ∀ {x}, Le 1251 x → Num x := fun h => h.num (by decide) (by decide)
  have M : ∀ {a b : Nat}, Le 1251 a → Le 1251 b → Num (FM a b) := fun h k => (m_le' h k).num (by decide) (by decide)
  have e1 := fun w => hmul (mul_num (N hp.y) (N hq.z)) w
  have e2 := fun w => hmul (mul_num (N hp.z) (N hq.y)) w
  have e3 := fun w => hsub (sub_num (M hp.y hq.z) (M hp.z hq.y)) w
  have e4 := fun w => hmul (mul_num (N hp.z) (N hq.x)) w
  have e5 := fun w => hmul (mul_num (N hp.x) (N hq.z)) w
  have e6 := fun w => hsub (sub_num (M hp.z hq.x) (M hp.x hq.z)) w
  have e7 := fun w => hmul (mul_num (N hp.x) (N hq.y)) w
  have e8 := fun w => hmul (mul_num (N hp.y) (N hq.x)) w
  have e9 := fun w => hsub (sub_num (M hp.x hq.y) (M hp.y hq.x)) w
  have f1 := fun w => hmul (mul_num (N hp.x) (N hq.x)) w
  have f2 := fun w => hmul (mul_num (N hp.y) (N hq.y)) w
  have f3 := fun w => hadd (add_num (M hp.x hq.x) (M hp.y hq.y)) w
  have f4 := fun w => hmul (mul_num (N hp.z) (N hq.z)) w
  have f5 := fun w => hadd (add_num ((gd_le hp hq).2.num (by decide) (by decide)) (M hp.z hq.z)) w
  have GL := hid (glen_eq hp hq)
  have GA := hid (fun w => angleP_any (gL x1 y1 z1 x2 y2 z2) (gD x1 y1 z1 x2 y2 z2) (gl_eq hp hq).2 (gd_le hp hq).1.1 w)
  unfold gD at GA
  clear N M hp hq
  go_enter Try.func4, Try.ntmps4
  go_upto_region 1 with fail
  go_cut [5, 6] from 9 to 12 (fun s5 s6 wx => ∃ B C, s5 = .pointer (some ⟨B, 0, none⟩) ∧ s6 = .pointer (some ⟨C, 0, none⟩) ∧ At wx B [.float .f64 x1, .float .f64 y1, .float .f64 z1] ∧ At wx C [.float .f64 x2, .float .f64 y2, .float .f64 z2] ∧ Gr w wx)
  case first =>
    have HC := ((Gr.refl w).alloc (.cells #[.int .i64 a, .int .i64 b] 23)).alloc (.cells #[.int .i64 c, .int .i64 d] 23)
    have PA := ((At.new2 w (.int .i64 a) (.int .i64 b) 23).alloc (.cells #[.int .i64 c, .int .i64 d] 23))
    have QA := (At.nx2 (W := w) (.cells #[.int .i64 a, .int .i64 b] 23) (.int .i64 c) (.int .i64 d) 23)
    have lt2 : ∀ n : Nat, n < n + 1 + 1 := fun n => by omega
    go_region_held (fun w' => w'.cell? ⟨w.heap.size, 0, none⟩ = some (.int .i64 a) ∧ w'.cell? ⟨w.heap.size, 1, none⟩ = some (.int .i64 b) ∧ w'.cell? ⟨w.heap.size + 1, 0, none⟩ = some (.int .i64 c) ∧ w'.cell? ⟨w.heap.size + 1, 1, none⟩ = some (.int .i64 d))
      ((refine c22 (a := .int .i64 a) (b := .int .i64 b) (c := .int .i64 c) (d := .int .i64 d) ?_ ?_; all_goals ((with_reducible repeat' (first | assumption | exact At.new1 _ _ _ | exact At.new2 _ _ _ _ | exact At.new3 _ _ _ _ _ | exact At.nx1 _ _ _ | exact At.nx2 _ _ _ _ | exact At.nx3 _ _ _ _ _ | exact At.ny1 _ _ _ _ | exact At.ny2 _ _ _ _ _ | exact At.ny3 _ _ _ _ _ _ | exact At.nz1 _ _ _ _ _ | exact At.nz2 _ _ _ _ _ _ | exact At.nz3 _ _ _ _ _ _ _ | exact Has.new1 _ _ _ | exact Has.new2 _ _ _ _ | exact Has.new3 _ _ _ _ _ | exact Has.nx1 _ _ _ | exact Has.nx2 _ _ _ _ | exact Has.nx3 _ _ _ _ _ | exact Has.ny1 _ _ _ _ | exact Has.ny2 _ _ _ _ _ | exact Has.ny3 _ _ _ _ _ _ | exact Has.nz1 _ _ _ _ _ | exact Has.nz2 _ _ _ _ _ _ | exact Has.nz3 _ _ _ _ _ _ _ | refine At.fill1 ?_ _ | refine At.fill2 ?_ _ _ | refine At.fill3 ?_ _ _ _ | refine At.swap ?_ (by first | omega | (simp; omega)) _ _ | refine At.alloc ?_ _ | refine At.drew ?_ | refine At.skip ?_ (by first | omega | (simp; omega)) _ _ | refine At.below (by assumption) ?_ | refine Has.alloc ?_ _ | refine Has.drew ?_ | refine Has.set ?_ _ _ _ | refine Has.below (by assumption) ?_)); done)))
      ((first
        | (go_at_call 6; (with_reducible first | refine (HP.out _).mono ?_ | refine (HQ.out _).mono ?_); rintro e w5 ⟨rfl, hB5, hs5⟩; obtain ⟨hc5, hf5⟩ := mcell hB5; obtain ⟨ha5, hn5, hm5⟩ := bless hs5; (try simp at hs5); have hz5 : w.heap.size + 1 + 1 < w5.heap.size := (by omega); replace HC : Gr w w5 := Gr.step (by ((with_reducible repeat' (first | assumption | refine Gr.drew ?_ | refine Gr.alloc ?_ _ | refine Gr.set ?_ (by first | omega | (simp; omega)) _ _ | exact Gr.refl _)); done)) hB5; replace PA : At w5 w.heap.size [.int .i64 a, .int .i64 b] := At.below hB5 (by ((with_reducible repeat' (first | assumption | exact At.new1 _ _ _ | exact At.new2 _ _ _ _ | exact At.new3 _ _ _ _ _ | exact At.nx1 _ _ _ | exact At.nx2 _ _ _ _ | exact At.nx3 _ _ _ _ _ | exact At.ny1 _ _ _ _ | exact At.ny2 _ _ _ _ _ | exact At.ny3 _ _ _ _ _ _ | exact At.nz1 _ _ _ _ _ | exact At.nz2 _ _ _ _ _ _ | exact At.nz3 _ _ _ _ _ _ _ | exact Has.new1 _ _ _ | exact Has.new2 _ _ _ _ | exact Has.new3 _ _ _ _ _ | exact Has.nx1 _ _ _ | exact Has.nx2 _ _ _ _ | exact Has.nx3 _ _ _ _ _ | exact Has.ny1 _ _ _ _ | exact Has.ny2 _ _ _ _ _ | exact Has.ny3 _ _ _ _ _ _ | exact Has.nz1 _ _ _ _ _ | exact Has.nz2 _ _ _ _ _ _ | exact Has.nz3 _ _ _ _ _ _ _ | refine At.fill1 ?_ _ | refine At.fill2 ?_ _ _ | refine At.fill3 ?_ _ _ _ | refine At.swap ?_ (by first | omega | (simp; omega)) _ _ | refine At.alloc ?_ _ | refine At.drew ?_ | refine At.skip ?_ (by first | omega | (simp; omega)) _ _ | refine At.below (by assumption) ?_ | refine Has.alloc ?_ _ | refine Has.drew ?_ | refine Has.set ?_ _ _ _ | refine Has.below (by assumption) ?_)); done)); replace QA : At w5 (w.heap.size + 1) [.int .i64 c, .int .i64 d] := At.below hB5 (by ((with_reducible repeat' (first | assumption | exact At.new1 _ _ _ | exact At.new2 _ _ _ _ | exact At.new3 _ _ _ _ _ | exact At.nx1 _ _ _ | exact At.nx2 _ _ _ _ | exact At.nx3 _ _ _ _ _ | exact At.ny1 _ _ _ _ | exact At.ny2 _ _ _ _ _ | exact At.ny3 _ _ _ _ _ _ | exact At.nz1 _ _ _ _ _ | exact At.nz2 _ _ _ _ _ _ | exact At.nz3 _ _ _ _ _ _ _ | exact Has.new1 _ _ _ | exact Has.new2 _ _ _ _ | exact Has.new3 _ _ _ _ _ | exact Has.nx1 _ _ _ | exact Has.nx2 _ _ _ _ | exact Has.nx3 _ _ _ _ _ | exact Has.ny1 _ _ _ _ | exact Has.ny2 _ _ _ _ _ | exact Has.ny3 _ _ _ _ _ _ | exact Has.nz1 _ _ _ _ _ | exact Has.nz2 _ _ _ _ _ _ | exact Has.nz3 _ _ _ _ _ _ _ | refine At.fill1 ?_ _ | refine At.fill2 ?_ _ _ | refine At.fill3 ?_ _ _ _ | refine At.swap ?_ (by first | omega | (simp; omega)) _ _ | refine At.alloc ?_ _ | refine At.drew ?_ | refine At.skip ?_ (by first | omega | (simp; omega)) _ _ | refine At.below (by assumption) ?_ | refine Has.alloc ?_ _ | refine Has.drew ?_ | refine Has.set ?_ _ _ _ | refine Has.below (by assumption) ?_)); done)))))
    all_goals
      go_wp2_with fail
      go_meet
      refine ⟨_, _, rfl, rfl, ?_, ?_, ?_⟩
    all_goals first | ((with_reducible repeat' (first | assumption | exact At.new1 _ _ _ | exact At.new2 _ _ _ _ | exact At.new3 _ _ _ _ _ | exact At.nx1 _ _ _ | exact At.nx2 _ _ _ _ | exact At.nx3 _ _ _ _ _ | exact At.ny1 _ _ _ _ | exact At.ny2 _ _ _ _ _ | exact At.ny3 _ _ _ _ _ _ | exact At.nz1 _ _ _ _ _ | exact At.nz2 _ _ _ _ _ _ | exact At.nz3 _ _ _ _ _ _ _ | exact Has.new1 _ _ _ | exact Has.new2 _ _ _ _ | exact Has.new3 _ _ _ _ _ | exact Has.nx1 _ _ _ | exact Has.nx2 _ _ _ _ | exact Has.nx3 _ _ _ _ _ | exact Has.ny1 _ _ _ _ | exact Has.ny2 _ _ _ _ _ | exact Has.ny3 _ _ _ _ _ _ | exact Has.nz1 _ _ _ _ _ | exact Has.nz2 _ _ _ _ _ _ | exact Has.nz3 _ _ _ _ _ _ _ | refine At.fill1 ?_ _ | refine At.fill2 ?_ _ _ | refine At.fill3 ?_ _ _ _ | refine At.swap ?_ (by first | omega | (simp; omega)) _ _ | refine At.alloc ?_ _ | refine At.drew ?_ | refine At.skip ?_ (by first | omega | (simp; omega)) _ _ | refine At.below (by assumption) ?_ | refine Has.alloc ?_ _ | refine Has.drew ?_ | refine Has.set ?_ _ _ _ | refine Has.below (by assumption) ?_)); done) | ((with_reducible repeat' (first | assumption | refine Gr.drew ?_ | refine Gr.alloc ?_ _ | refine Gr.set ?_ (by first | omega | (simp; omega)) _ _ | exact Gr.refl _)); done)
  case rest =>
    obtain ⟨B, C, rfl, rfl, a1, a2, HC⟩ := hcut
    obtain ⟨b0, b1, b2⟩ := a1.c3
    obtain ⟨c0, c1, c2⟩ := a2.c3
    have l1 := a1.lt
    have l2 := a2.lt
    have n1 : ¬ B = wc.heap.size := by omega
    have n2 : ¬ C = wc.heap.size := by omega
    go_wp2_with fail
    refine (length_any _ _ _ _).mono ?_
    rintro e w1 ⟨r, rfl, hr, hB⟩
    obtain rfl : r = gL x1 y1 z1 x2 y2 z2 := by have h := GL.out; unfold gC at h; rw [h] at hr; exact hr
    replace HC : Gr w w1 := Gr.step (HC.alloc _) hB
    clear hB hr
    go_wp2_with fail
    refine (GA.out _).mono ?_
    rintro e w2 ⟨rfl, hB⟩
    replace HC : Gr w w2 := Gr.step HC hB
    go_wp2
    go_ret
    exact ⟨rfl, HC⟩
end Go.Proofs.Ytmiamfnnccjmeac
