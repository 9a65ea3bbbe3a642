/-
  mercatorref1.CmpOf, FloorOf, NearOf.
-/
import Derived.Test.YtgjjgicojedefaaDoorSgC
namespace Go.Proofs.YtgjjgicojedefaaDoor
open Go.RowKit BG
attribute [local go_sem ↓] Go.wp_at_zero Go.wp_at_succ

theorem prod_lid {x y : Int} (hx : x.natAbs ≤ 4611686018427387904) (hy : y.natAbs ≤ 4611686018427387904) : (x * y).natAbs ≤ 4 * lid := by
  rw [Int.natAbs_mul]
  refine Nat.le_trans (Nat.mul_le_mul hx hy) ?_
  decide +kernel
theorem part_50 {x : Int} (hx : x.natAbs ≤ 4611686018427387904) : x.natAbs < 1000000 ^ 50 := by
  refine Nat.lt_of_le_of_lt hx ?_
  decide +kernel
/-- A right fraction's number. -/
def Sml (n : Int) : Prop := n.natAbs ≤ 4611686018427387904
/-- Sums of these are in reach. -/
def Pr (n : Int) : Prop := n.natAbs ≤ 4 * lid
theorem Sg.drew {W : World} {m : Bool} {v : Value} {z : Int} (h : Sg W m v z) : Sg W.drew m v z := h.below (Below.refl _ _).drew
theorem Sg.step {W w' : World} {m : Bool} {v : Value} {z : Int} (hB : Below W.heap.size W w') (h : Sg W m v z) : Sg w' m v z := h.below hB
theorem ofS (n : Int) (h : Sml n) (w : World) : Calls Tryd.prog 13 #[.int .i64 n] w fun e w' => ∃ m v, e = .returned (.agg #[.bool m, v]) ∧ Sg w' m v n ∧ Below w.heap.size w w' ∧ w.heap.size < w'.heap.size := signedOf_any n (by unfold Sml at h; omega) (by unfold Sml at h; omega) w
theorem mulS {w : World} {m n : Bool} {u v : Value} {x y : Int} (h : Sg w m u x) (k : Sg w n v y) (lx : Sml x) (ly : Sml y) : Calls Tryd.prog 49 #[.agg #[.bool m, u], .agg #[.bool n, v]] w fun e w' => ∃ o t, e = .returned (.agg #[.bool o, t]) ∧ Sg w' o t (x * y) ∧ Below w.heap.size w w' ∧ w.heap.size < w'.heap.size := signedMul_any (part_50 lx) (part_50 ly) h k
theorem cmpS {w : World} {m n : Bool} {u v : Value} {x y : Int} (h : Sg w m u x) (k : Sg w n v y) (lx : Pr x) (ly : Pr y) : Calls Tryd.prog 48 #[.agg #[.bool m, u], .agg #[.bool n, v]] w fun e w' => e = .returned (.int .i64 (ci x y)) ∧ Below w.heap.size w w' := signedCmp_any lx ly h k
set_option maxRecDepth 4000 in
set_option maxHeartbeats 4000000 in
theorem cmpOf_any (a b c d : Int) (ha : Sml a) (hb : Sml b) (hc : Sml c) (hd : Sml d) (w : World) : Calls Tryd.prog 20 #[.agg #[.int .i64 a, .int .i64 b], .agg #[.int .i64 c, .int .i64 d]] w fun e w' => e = .returned (.int .i64 (ci (a * d) (c * b))) ∧ Below w.heap.size w w' := by
  have p1 : Pr (a * d) := prod_lid ha hd
  have p2 : Pr (c * b) := prod_lid hc hb
  go_enter Tryd.func20, Tryd.ntmps20
  go_upto_region 1 with fail
  have HC := ((Gr.refl w).alloc (.cells #[.int .i64 a, .int .i64 b] 29)).alloc (.cells #[.int .i64 c, .int .i64 d] 29)
  have PA := ((At.new2 w (.int .i64 a) (.int .i64 b) 29).alloc (.cells #[.int .i64 c, .int .i64 d] 29))
  have QA := (At.nx2 (W := w) (.cells #[.int .i64 a, .int .i64 b] 29) (.int .i64 c) (.int .i64 d) 29)
  generalize (w.alloc (.cells #[.int .i64 a, .int .i64 b] 29)).alloc (.cells #[.int .i64 c, .int .i64 d] 29) = w1 at *
  go_region_held (fun w' => w'.cell? ⟨w.heap.size, 0, none⟩ = some (.int .i64 a) ∧ w'.cell? ⟨w.heap.size, 1, none⟩ = some (.int .i64 b) ∧ w'.cell? ⟨w.heap.size + 1, 0, none⟩ = some (.int .i64 c) ∧ w'.cell? ⟨w.heap.size + 1, 1, none⟩ = some (.int .i64 d))
    ((refine s22 (a := .int .i64 a) (b := .int .i64 b) (c := .int .i64 c) (d := .int .i64 d) ?_ ?_; all_goals ((with_reducible repeat' (first | assumption | exact At.new1 _ _ _ | exact At.new2 _ _ _ _ | exact At.new3 _ _ _ _ _ | exact At.nx1 _ _ _ | exact At.nx2 _ _ _ _ | exact At.nx3 _ _ _ _ _ | exact At.ny1 _ _ _ _ | exact At.ny2 _ _ _ _ _ | exact At.ny3 _ _ _ _ _ _ | exact At.nz1 _ _ _ _ _ | exact At.nz2 _ _ _ _ _ _ | exact At.nz3 _ _ _ _ _ _ _ | exact Has.new1 _ _ _ | exact Has.new2 _ _ _ _ | exact Has.new3 _ _ _ _ _ | exact Has.nx1 _ _ _ | exact Has.nx2 _ _ _ _ | exact Has.nx3 _ _ _ _ _ | exact Has.ny1 _ _ _ _ | exact Has.ny2 _ _ _ _ _ | exact Has.ny3 _ _ _ _ _ _ | exact Has.nz1 _ _ _ _ _ | exact Has.nz2 _ _ _ _ _ _ | exact Has.nz3 _ _ _ _ _ _ _ | refine At.fill1 ?_ _ | refine At.fill2 ?_ _ _ | refine At.fill3 ?_ _ _ _ | refine At.swap ?_ (by first | omega | (simp; omega)) _ _ | refine At.alloc ?_ _ | refine At.drew ?_ | refine At.skip ?_ (by first | omega | (simp; omega)) _ _ | refine At.below (by assumption) ?_ | refine Has.alloc ?_ _ | refine Has.drew ?_ | refine Has.set ?_ _ _ _ | refine Has.below (by assumption) ?_)); done)))
    ((first
      | (go_at_call 13; refine (ofS _ (by with_reducible assumption) _).mono ?_; rintro e w2 ⟨m1, u1, rfl, h1, hB1, hs1⟩; clear hs1; (with_reducible first | replace hB1 := undr hB1 | skip); replace HC := Gr.step HC hB1; replace PA := At.below hB1 PA; replace QA := At.below hB1 QA)
      | (go_at_call 49; refine (mulS (x := ?gx) (y := ?gy) ?gh ?gk ?gl ?gm).mono ?_; (case gh => ((with_reducible repeat' (first | assumption | refine Sg.drew ?_ | refine Sg.step (by assumption) ?_)); done)); (case gk => ((with_reducible repeat' (first | assumption | refine Sg.drew ?_ | refine Sg.step (by assumption) ?_)); done)); (case gl => with_reducible assumption); (case gm => with_reducible assumption); rintro e w2 ⟨m1, u1, rfl, h1, hB1, hs1⟩; clear hs1; (with_reducible first | replace hB1 := undr hB1 | skip); replace HC := Gr.step HC hB1; replace PA := At.below hB1 PA; replace QA := At.below hB1 QA)
      | (go_at_call 49; refine (mulS (x := ?kx) (y := ?ky) ?kh ?kk ?kl ?km).mono ?_; (case kh => ((with_reducible repeat' (first | assumption | refine Sg.drew ?_ | refine Sg.step (by assumption) ?_)); done)); (case kk => ((with_reducible repeat' (first | assumption | refine Sg.drew ?_ | refine Sg.step (by assumption) ?_)); done)); (case kl => with_reducible assumption); (case km => with_reducible assumption); rintro e w2 ⟨m1, u1, rfl, h1, hB1, hs1⟩; clear hs1; (with_reducible first | replace hB1 := undr hB1 | skip); replace HC := Gr.step HC hB1; replace PA := At.below hB1 PA; replace QA := At.below hB1 QA)
      | (go_at_call 48; refine (cmpS (x := ?jx) (y := ?jy) ?jh ?jk ?jl ?jm).mono ?_; (case jh => ((with_reducible repeat' (first | assumption | refine Sg.drew ?_ | refine Sg.step (by assumption) ?_)); done)); (case jk => ((with_reducible repeat' (first | assumption | refine Sg.drew ?_ | refine Sg.step (by assumption) ?_)); done)); (case jl => with_reducible assumption); (case jm => with_reducible assumption); rintro e w2 ⟨rfl, hB1⟩; (with_reducible first | replace hB1 := undr hB1 | skip); replace HC := Gr.step HC hB1; replace PA := At.below hB1 PA; replace QA := At.below hB1 QA)))
  go_wp2
  go_ret
  exact ⟨rfl, HC⟩
end Go.Proofs.YtgjjgicojedefaaDoor
