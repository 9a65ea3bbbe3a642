/-
  grain's ratio.plus.
-/
import Derived.Test.YtgjjgicojedefaaDoorRkA
namespace Go.Proofs.YtgjjgicojedefaaDoor
open Go.RowKit BG
attribute [local go_sem ↓] Go.wp_at_zero Go.wp_at_succ

theorem undrN {W w' : World} {n : Nat} (h : Below (W.drewN n).heap.size (W.drewN n) w') : Below W.heap.size W w' := ⟨h.1, h.2, h.3, h.4, h.5⟩
theorem At.new2d (W : World) (a b : Value) (t : Nat) : At (W.drew.alloc (.cells #[a, b] t)) W.heap.size [a, b] := At.new2 W.drew a b t
/-- The words of a sum of two fractions. -/
structure Pw (an bn : Int) (ad bd : Int) (A B c u1 u2 u3 l d P Q m : Nat) (S : Int) : Prop where
  ea : IntKind.u64.wrap ad = (A : Int)
  eb : IntKind.u64.wrap bd = (B : Int)
  gA : A ≤ 4611686018427387904
  gB : B ≤ 4611686018427387904
  hc : Nat.gcd A B = c
  c0 : 0 < c
  cl : c ≤ 4611686018427387904
  h1 : B / c = u1
  h2 : A / c = u2
  h3 : B / d = u3
  l1 : u1 ≤ 4611686018427387904
  l2 : u2 ≤ 4611686018427387904
  l3 : u3 ≤ 4611686018427387904
  s : an * (u1 : Int) + bn * (u2 : Int) = S
  sm : S.natAbs = m
  ml : m ≤ 42535295865117307932921825928971026432
  hl : m % c = l
  hd : Nat.gcd c l = d
  d0 : 0 < d
  dl : d ≤ 4611686018427387904
  hP : m / d = P
  hQ : u2 * u3 = Q
  q1 : rx (decide (S < 0)) P Q = qx (an * bd + bn * ad) (ad * bd)
  q2 : ry P Q = qy (an * bd + bn * ad) (ad * bd)
  q3 : ∀ g, re g P Q = qe g (an * bd + bn * ad) (ad * bd)
theorem pw_ex {an ad bn bd : Int} (ha : Rgt an ad) (hb : Rgt bn bd) : ∃ A B c u1 u2 u3 l d P Q m S, Pw an bn ad bd A B c u1 u2 u3 l d P Q m S := by
  obtain ⟨⟨a1, a2, a3, a4⟩, ga⟩ := ha
  obtain ⟨⟨b1, b2, b3, b4⟩, gb⟩ := hb
  have za : 0 < ad.natAbs := by omega
  have zb : 0 < bd.natAbs := by omega
  have ea : (ad.natAbs : Int) = ad := by omega
  have eb : (bd.natAbs : Int) = bd := by omega
  have ya : ad.natAbs ≤ 4611686018427387904 := by omega
  have yb : bd.natAbs ≤ 4611686018427387904 := by omega
  have wa : IntKind.u64.wrap ad = ((ad.natAbs : Nat) : Int) := by rw [IntKind.wrap_u64]; omega
  have wb : IntKind.u64.wrap bd = ((bd.natAbs : Nat) : Int) := by rw [IntKind.wrap_u64]; omega
  have hD : (ad * bd).natAbs = ad.natAbs * bd.natAbs := Int.natAbs_mul _ _
  have hDp : decide (ad * bd < 0) = false := decide_eq_false (by have := Int.mul_pos (show 0 < ad by omega) (show 0 < bd by omega); omega)
  obtain ⟨t1, t2, t3, t4, t5⟩ := plus_red ga gb za zb
  rw [ea, eb] at t1 t2 t5
  have xa : an.natAbs ≤ 4611686018427387904 := by omega
  have xb : bn.natAbs ≤ 4611686018427387904 := by omega
  generalize ad.natAbs = A at *
  generalize bd.natAbs = B at *
  obtain ⟨c, hc⟩ : ∃ c, Nat.gcd A B = c := ⟨_, rfl⟩
  have cl : c ≤ A := by rw [← hc]; exact Nat.gcd_le_left _ za
  obtain ⟨S, hS⟩ : ∃ S, suS an bn A B = S := ⟨_, rfl⟩
  obtain ⟨d, hd⟩ : ∃ d, suD an bn A B = d := ⟨_, rfl⟩
  rw [hS, hd] at t1
  rw [hd, hc] at t2
  rw [hc] at t3
  rw [hd] at t4
  rw [hc, hS] at t5
  have hd' := hd
  unfold suD at hd'
  rw [hS, hc] at hd'
  have dl : d ≤ c := by rw [← hd']; exact Nat.gcd_le_left _ t3
  have hS' := hS
  unfold suS at hS'
  rw [hc] at hS'
  have l1 : B / c ≤ B := Nat.div_le_self _ _
  have l2 : A / c ≤ A := Nat.div_le_self _ _
  have l3 : B / d ≤ B := Nat.div_le_self _ _
  have p1 : (an * ((B / c : Nat) : Int)).natAbs ≤ 21267647932558653966460912964485513216 := prod_62 xa (by rw [Int.natAbs_natCast]; omega)
  have p2 : (bn * ((A / c : Nat) : Int)).natAbs ≤ 21267647932558653966460912964485513216 := prod_62 xb (by rw [Int.natAbs_natCast]; omega)
  have ml : S.natAbs ≤ 42535295865117307932921825928971026432 := by rw [← hS']; omega
  have hneg : decide (an * bd + bn * ad < 0) = decide (S < 0) := by
    rw [t5]
    by_cases h : S < 0
    · rw [decide_eq_true h, decide_eq_true (Int.mul_neg_of_pos_of_neg (by omega) h)]
    · have := Int.mul_nonneg (show (0 : Int) ≤ (c : Int) by omega) (show 0 ≤ S by omega)
      rw [decide_eq_false h, decide_eq_false (by omega)]
  refine ⟨A, B, c, B / c, A / c, B / d, S.natAbs % c, d, S.natAbs / d, A / c * (B / d), S.natAbs, S, ⟨wa, wb, ya, yb, hc, t3, by omega, rfl, rfl, rfl, by omega, by omega, by omega, hS', rfl, ml, rfl, hd', t4, by omega, rfl, rfl, ?_, ?_, ?_⟩⟩
  · unfold qx
    rw [hD, hDp, t1, t2, hneg]
    cases decide (S < 0) <;> rfl
  · unfold qy
    rw [hD, t1, t2]
  · intro g
    unfold qe
    rw [hD, t1, t2]
set_option maxRecDepth 4000 in
set_option maxHeartbeats 8000000 in
theorem rplus_any (g : Nat → Addr) (an ad bn bd : Int) (ha : Rgt an ad) (hb : Rgt bn bd) (w : World) (hl : Laid w g) : Calls Tryd.prog 51 #[.agg #[.int .i64 an, .int .i64 ad], .agg #[.int .i64 bn, .int .i64 bd]] w fun e w' => e = .returned (.tuple #[.agg #[.int .i64 (qx (an * bd + bn * ad) (ad * bd)), .int .i64 (qy (an * bd + bn * ad) (ad * bd))], qe g (an * bd + bn * ad) (ad * bd)]) ∧ Below w.heap.size w w' := by
  obtain ⟨A, B, c, u1, u2, u3, l, d, P, Q, m, S, D⟩ := pw_ex ha hb
  rw [← D.q1, ← D.q2, ← D.q3 g]
  obtain ⟨⟨a1, a2, a3, a4⟩, ga⟩ := ha
  obtain ⟨⟨b1, b2, b3, b4⟩, gb⟩ := hb
  have ea := D.ea
  have eb := D.eb
  have HG := hidb (fun w => divisor_any A B (by have := D.gA; omega) (by have := D.gB; omega) w)
  rw [D.hc] at HG
  have HP1 := hidb (fun w => product_any an u1 (by omega) (by omega) (by have := D.l1; omega) w)
  have HP2 := hidb (fun w => product_any bn u2 (by omega) (by omega) (by have := D.l2; omega) w)
  have HA := hidb (fun w => plus_any (an * (u1 : Int)) (bn * (u2 : Int)) w)
  rw [D.s] at HA
  generalize an * (u1 : Int) = y1 at *
  generalize bn * (u2 : Int) = y2 at *
  have hW : Wid S := by have := D.ml; have := D.sm; unfold Wid; omega
  have HS := hidb (fun w => sign_any S hW w)
  have HN := hidb (fun w => negated_any S w)
  have mz : m < 340282366920938463463374607431768211456 := by have := D.ml; omega
  have HL := hidb (fun w => left_any m c l mz D.c0 (by have := D.cl; omega) D.hl w)
  have HG2 := hidb (fun w => divisor_any c l (by have := D.cl; omega) (by have := D.cl; have := Nat.mod_lt m D.c0; have := D.hl; omega) w)
  rw [D.hd] at HG2
  have HO := hidb (fun w => over_any m d mz D.d0 (by have := D.dl; omega) w)
  rw [D.hP] at HO
  have HM := hidb (fun w => multiply_any u2 u3 (by have := D.l2; omega) (by have := D.l3; omega) w)
  have hm : (u2 : Int) * (u3 : Int) = (Q : Int) := by rw [← D.hQ, Int.natCast_mul]
  rw [hm] at HM
  have lP : P < 340282366920938463463374607431768211456 := by have := Nat.div_le_self m d; have := D.hP; omega
  have lQ : Q < 340282366920938463463374607431768211456 := by rw [← D.hQ]; exact mul_128 (by have := D.l2; omega) (by have := D.l3; omega)
  have HB := hidb (fun w hl => bounded_all g (decide (S < 0)) P Q lP lQ w hl)
  obtain ⟨j1, k1⟩ := div_words D.h1 (by have := D.gB; omega)
  obtain ⟨j2, k2⟩ := div_words D.h2 (by have := D.gA; omega)
  obtain ⟨j3, k3⟩ := div_words D.h3 (by have := D.gB; omega)
  have HP1' := hidb (show ∀ w, Calls Tryd.prog 43 #[.int .i64 an, .int .u64 (IntKind.u64.wrap (u1 : Int))] w fun e w' => e = .returned (W2 y1) ∧ Below w.heap.size w w' from by rw [k1]; exact HP1.out)
  have HP2' := hidb (show ∀ w, Calls Tryd.prog 43 #[.int .i64 bn, .int .u64 (IntKind.u64.wrap (u2 : Int))] w fun e w' => e = .returned (W2 y2) ∧ Below w.heap.size w w' from by rw [k2]; exact HP2.out)
  have HM' := hidb (show ∀ w, Calls Tryd.prog 69 #[.int .u64 (IntKind.u64.wrap (u2 : Int)), .int .u64 (IntKind.u64.wrap (u3 : Int))] w fun e w' => e = .returned (W2 (Q : Int)) ∧ Below w.heap.size w w' from by rw [k2, k3]; exact HM.out)
  have c0 : ¬ (c : Int) = 0 := by have := D.c0; omega
  have d0 : ¬ (d : Int) = 0 := by have := D.d0; omega
  have SM := hidb D.sm
  generalize rx (decide (S < 0)) P Q = X at *
  generalize ry P Q = Z at *
  generalize re g P Q = E at *
  have HC : Gr w (((w.alloc (.cells #[.int .i64 an, .int .i64 ad] 88)).alloc (.cells #[.int .i64 bn, .int .i64 bd] 88)).alloc (.cells #[.int .i64 0, .int .i64 0] 29)) := (((Gr.refl w).alloc _).alloc _).alloc _
  have PA := ((At.new2 w (.int .i64 an) (.int .i64 ad) 88).alloc (.cells #[.int .i64 bn, .int .i64 bd] 88)).alloc (.cells #[.int .i64 0, .int .i64 0] 29)
  have QA := (At.nx2 (W := w) (.cells #[.int .i64 an, .int .i64 ad] 88) (.int .i64 bn) (.int .i64 bd) 88).alloc (.cells #[.int .i64 0, .int .i64 0] 29)
  have RA := At.ny2 (W := w) (.cells #[.int .i64 an, .int .i64 ad] 88) (.cells #[.int .i64 bn, .int .i64 bd] 88) (.int .i64 0) (.int .i64 0) 29
  have hge : w.heap.size ≤ w.heap.size + 1 + 1 := by omega
  clear D a1 a2 a3 a4 b1 b2 b3 b4 ga gb hW mz hm lP lQ
  go_enter Tryd.func51, Tryd.ntmps51
  go_wp2_with fail
  generalize ((w.alloc (.cells #[.int .i64 an, .int .i64 ad] 88)).alloc (.cells #[.int .i64 bn, .int .i64 bd] 88)).alloc (.cells #[.int .i64 0, .int .i64 0] 29) = w3 at *
  obtain ⟨p0, p1⟩ := PA.c2
  obtain ⟨q0, q1⟩ := QA.c2
  go_quiet (fail)
  go_wp2_with fail
  refine (HG.out _).mono ?_
  rintro e w4 ⟨rfl, hB⟩
  replace hB := undrN hB
  replace HC := Gr.step HC hB
  replace PA := At.below hB PA
  replace QA := At.below hB QA
  replace RA := At.below hB RA
  clear hB p0 p1 q0 q1 HG
  go_upto_region 3 with fail
  go_cut [9] from 21 to 33 (fun s9 wx => ∃ B9, s9 = .pointer (some ⟨B9, 0, none⟩) ∧ At wx B9 [.int .u64 (hi2 S), .int .u64 (lo2 S)] ∧ At wx w.heap.size [.int .i64 an, .int .i64 ad] ∧ At wx (w.heap.size + 1) [.int .i64 bn, .int .i64 bd] ∧ At wx (w.heap.size + 1 + 1) [.int .i64 0, .int .i64 0] ∧ Gr w wx ∧ w.heap.size + 1 + 1 < B9)
  case first =>
    clear HS HN HL HG2 HO HM HM' HB
    have hz := RA.lt
    go_region_held (fun w' => w'.cell? ⟨w.heap.size, 0, none⟩ = some (.int .i64 an) ∧ w'.cell? ⟨w.heap.size, 1, none⟩ = some (.int .i64 ad) ∧ w'.cell? ⟨w.heap.size + 1, 0, none⟩ = some (.int .i64 bn) ∧ w'.cell? ⟨w.heap.size + 1, 1, none⟩ = some (.int .i64 bd))
      ((refine s222 (a := .int .i64 an) (b := .int .i64 ad) (c := .int .i64 bn) (d := .int .i64 bd) ?_ ?_; all_goals ((with_reducible repeat' (first | assumption | exact At.new1 _ _ _ | exact At.new2 _ _ _ _ | exact At.new3 _ _ _ _ _ | exact At.nx1 _ _ _ | exact At.nx2 _ _ _ _ | exact At.nx3 _ _ _ _ _ | exact At.ny1 _ _ _ _ | exact At.ny2 _ _ _ _ _ | exact At.ny3 _ _ _ _ _ _ | exact At.nz1 _ _ _ _ _ | exact At.nz2 _ _ _ _ _ _ | exact At.nz3 _ _ _ _ _ _ _ | exact Has.new1 _ _ _ | exact Has.new2 _ _ _ _ | exact Has.new3 _ _ _ _ _ | exact Has.nx1 _ _ _ | exact Has.nx2 _ _ _ _ | exact Has.nx3 _ _ _ _ _ | exact Has.ny1 _ _ _ _ | exact Has.ny2 _ _ _ _ _ | exact Has.ny3 _ _ _ _ _ _ | exact Has.nz1 _ _ _ _ _ | exact Has.nz2 _ _ _ _ _ _ | exact Has.nz3 _ _ _ _ _ _ _ | refine At.fill1 ?_ _ | refine At.fill2 ?_ _ _ | refine At.fill3 ?_ _ _ _ | refine At.swap ?_ (by first | omega | (simp; omega)) _ _ | refine At.alloc ?_ _ | refine At.drew ?_ | refine At.skip ?_ (by first | omega | (simp; omega)) _ _ | refine At.below (by assumption) ?_ | refine Has.alloc ?_ _ | refine Has.drew ?_ | refine Has.set ?_ _ _ _ | refine Has.below (by assumption) ?_)); done)))
      ((first
        | (go_at_call 43; (first | with_reducible refine (HP1'.out _).mono ?_ | with_reducible refine (HP2'.out _).mono ?_ | with_reducible refine (HP1.out _).mono ?_ | with_reducible refine (HP2.out _).mono ?_); rintro e w5 ⟨rfl, hB5⟩; (with_reducible first | replace NA := At.below hB5 NA | have NA := At.below hB5 (At.new2d _ _ _ _) | have NA := At.below hB5 (At.drew (At.new2 _ _ _ _)) | have NA := At.below hB5 (At.new2 _ _ _ _) | skip); replace HC : Gr w w5 := Gr.step (by ((with_reducible repeat' (first | assumption | refine Gr.drew ?_ | refine Gr.alloc ?_ _ | refine Gr.set ?_ (by first | omega | (simp; omega)) _ _ | exact Gr.refl _)); done)) hB5; replace PA : At w5 w.heap.size [.int .i64 an, .int .i64 ad] := At.below hB5 (by ((with_reducible repeat' (first | assumption | exact At.new1 _ _ _ | exact At.new2 _ _ _ _ | exact At.new3 _ _ _ _ _ | exact At.nx1 _ _ _ | exact At.nx2 _ _ _ _ | exact At.nx3 _ _ _ _ _ | exact At.ny1 _ _ _ _ | exact At.ny2 _ _ _ _ _ | exact At.ny3 _ _ _ _ _ _ | exact At.nz1 _ _ _ _ _ | exact At.nz2 _ _ _ _ _ _ | exact At.nz3 _ _ _ _ _ _ _ | exact Has.new1 _ _ _ | exact Has.new2 _ _ _ _ | exact Has.new3 _ _ _ _ _ | exact Has.nx1 _ _ _ | exact Has.nx2 _ _ _ _ | exact Has.nx3 _ _ _ _ _ | exact Has.ny1 _ _ _ _ | exact Has.ny2 _ _ _ _ _ | exact Has.ny3 _ _ _ _ _ _ | exact Has.nz1 _ _ _ _ _ | exact Has.nz2 _ _ _ _ _ _ | exact Has.nz3 _ _ _ _ _ _ _ | refine At.fill1 ?_ _ | refine At.fill2 ?_ _ _ | refine At.fill3 ?_ _ _ _ | refine At.swap ?_ (by first | omega | (simp; omega)) _ _ | refine At.alloc ?_ _ | refine At.drew ?_ | refine At.skip ?_ (by first | omega | (simp; omega)) _ _ | refine At.below (by assumption) ?_ | refine Has.alloc ?_ _ | refine Has.drew ?_ | refine Has.set ?_ _ _ _ | refine Has.below (by assumption) ?_)); done)); replace QA : At w5 (w.heap.size + 1) [.int .i64 bn, .int .i64 bd] := At.below hB5 (by ((with_reducible repeat' (first | assumption | exact At.new1 _ _ _ | exact At.new2 _ _ _ _ | exact At.new3 _ _ _ _ _ | exact At.nx1 _ _ _ | exact At.nx2 _ _ _ _ | exact At.nx3 _ _ _ _ _ | exact At.ny1 _ _ _ _ | exact At.ny2 _ _ _ _ _ | exact At.ny3 _ _ _ _ _ _ | exact At.nz1 _ _ _ _ _ | exact At.nz2 _ _ _ _ _ _ | exact At.nz3 _ _ _ _ _ _ _ | exact Has.new1 _ _ _ | exact Has.new2 _ _ _ _ | exact Has.new3 _ _ _ _ _ | exact Has.nx1 _ _ _ | exact Has.nx2 _ _ _ _ | exact Has.nx3 _ _ _ _ _ | exact Has.ny1 _ _ _ _ | exact Has.ny2 _ _ _ _ _ | exact Has.ny3 _ _ _ _ _ _ | exact Has.nz1 _ _ _ _ _ | exact Has.nz2 _ _ _ _ _ _ | exact Has.nz3 _ _ _ _ _ _ _ | refine At.fill1 ?_ _ | refine At.fill2 ?_ _ _ | refine At.fill3 ?_ _ _ _ | refine At.swap ?_ (by first | omega | (simp; omega)) _ _ | refine At.alloc ?_ _ | refine At.drew ?_ | refine At.skip ?_ (by first | omega | (simp; omega)) _ _ | refine At.below (by assumption) ?_ | refine Has.alloc ?_ _ | refine Has.drew ?_ | refine Has.set ?_ _ _ _ | refine Has.below (by assumption) ?_)); done)); replace RA : At w5 (w.heap.size + 1 + 1) [.int .i64 0, .int .i64 0] := At.below hB5 (by ((with_reducible repeat' (first | assumption | exact At.new1 _ _ _ | exact At.new2 _ _ _ _ | exact At.new3 _ _ _ _ _ | exact At.nx1 _ _ _ | exact At.nx2 _ _ _ _ | exact At.nx3 _ _ _ _ _ | exact At.ny1 _ _ _ _ | exact At.ny2 _ _ _ _ _ | exact At.ny3 _ _ _ _ _ _ | exact At.nz1 _ _ _ _ _ | exact At.nz2 _ _ _ _ _ _ | exact At.nz3 _ _ _ _ _ _ _ | exact Has.new1 _ _ _ | exact Has.new2 _ _ _ _ | exact Has.new3 _ _ _ _ _ | exact Has.nx1 _ _ _ | exact Has.nx2 _ _ _ _ | exact Has.nx3 _ _ _ _ _ | exact Has.ny1 _ _ _ _ | exact Has.ny2 _ _ _ _ _ | exact Has.ny3 _ _ _ _ _ _ | exact Has.nz1 _ _ _ _ _ | exact Has.nz2 _ _ _ _ _ _ | exact Has.nz3 _ _ _ _ _ _ _ | refine At.fill1 ?_ _ | refine At.fill2 ?_ _ _ | refine At.fill3 ?_ _ _ _ | refine At.swap ?_ (by first | omega | (simp; omega)) _ _ | refine At.alloc ?_ _ | refine At.drew ?_ | refine At.skip ?_ (by first | omega | (simp; omega)) _ _ | refine At.below (by assumption) ?_ | refine Has.alloc ?_ _ | refine Has.drew ?_ | refine Has.set ?_ _ _ _ | refine Has.below (by assumption) ?_)); done)); have hz5 := RA.lt)
        | (go_at_call 44; (first | with_reducible refine (HA.out _).mono ?_); rintro e w5 ⟨rfl, hB5⟩; (with_reducible first | replace NA := At.below hB5 NA | have NA := At.below hB5 (At.new2d _ _ _ _) | have NA := At.below hB5 (At.drew (At.new2 _ _ _ _)) | have NA := At.below hB5 (At.new2 _ _ _ _) | skip); replace HC : Gr w w5 := Gr.step (by ((with_reducible repeat' (first | assumption | refine Gr.drew ?_ | refine Gr.alloc ?_ _ | refine Gr.set ?_ (by first | omega | (simp; omega)) _ _ | exact Gr.refl _)); done)) hB5; replace PA : At w5 w.heap.size [.int .i64 an, .int .i64 ad] := At.below hB5 (by ((with_reducible repeat' (first | assumption | exact At.new1 _ _ _ | exact At.new2 _ _ _ _ | exact At.new3 _ _ _ _ _ | exact At.nx1 _ _ _ | exact At.nx2 _ _ _ _ | exact At.nx3 _ _ _ _ _ | exact At.ny1 _ _ _ _ | exact At.ny2 _ _ _ _ _ | exact At.ny3 _ _ _ _ _ _ | exact At.nz1 _ _ _ _ _ | exact At.nz2 _ _ _ _ _ _ | exact At.nz3 _ _ _ _ _ _ _ | exact Has.new1 _ _ _ | exact Has.new2 _ _ _ _ | exact Has.new3 _ _ _ _ _ | exact Has.nx1 _ _ _ | exact Has.nx2 _ _ _ _ | exact Has.nx3 _ _ _ _ _ | exact Has.ny1 _ _ _ _ | exact Has.ny2 _ _ _ _ _ | exact Has.ny3 _ _ _ _ _ _ | exact Has.nz1 _ _ _ _ _ | exact Has.nz2 _ _ _ _ _ _ | exact Has.nz3 _ _ _ _ _ _ _ | refine At.fill1 ?_ _ | refine At.fill2 ?_ _ _ | refine At.fill3 ?_ _ _ _ | refine At.swap ?_ (by first | omega | (simp; omega)) _ _ | refine At.alloc ?_ _ | refine At.drew ?_ | refine At.skip ?_ (by first | omega | (simp; omega)) _ _ | refine At.below (by assumption) ?_ | refine Has.alloc ?_ _ | refine Has.drew ?_ | refine Has.set ?_ _ _ _ | refine Has.below (by assumption) ?_)); done)); replace QA : At w5 (w.heap.size + 1) [.int .i64 bn, .int .i64 bd] := At.below hB5 (by ((with_reducible repeat' (first | assumption | exact At.new1 _ _ _ | exact At.new2 _ _ _ _ | exact At.new3 _ _ _ _ _ | exact At.nx1 _ _ _ | exact At.nx2 _ _ _ _ | exact At.nx3 _ _ _ _ _ | exact At.ny1 _ _ _ _ | exact At.ny2 _ _ _ _ _ | exact At.ny3 _ _ _ _ _ _ | exact At.nz1 _ _ _ _ _ | exact At.nz2 _ _ _ _ _ _ | exact At.nz3 _ _ _ _ _ _ _ | exact Has.new1 _ _ _ | exact Has.new2 _ _ _ _ | exact Has.new3 _ _ _ _ _ | exact Has.nx1 _ _ _ | exact Has.nx2 _ _ _ _ | exact Has.nx3 _ _ _ _ _ | exact Has.ny1 _ _ _ _ | exact Has.ny2 _ _ _ _ _ | exact Has.ny3 _ _ _ _ _ _ | exact Has.nz1 _ _ _ _ _ | exact Has.nz2 _ _ _ _ _ _ | exact Has.nz3 _ _ _ _ _ _ _ | refine At.fill1 ?_ _ | refine At.fill2 ?_ _ _ | refine At.fill3 ?_ _ _ _ | refine At.swap ?_ (by first | omega | (simp; omega)) _ _ | refine At.alloc ?_ _ | refine At.drew ?_ | refine At.skip ?_ (by first | omega | (simp; omega)) _ _ | refine At.below (by assumption) ?_ | refine Has.alloc ?_ _ | refine Has.drew ?_ | refine Has.set ?_ _ _ _ | refine Has.below (by assumption) ?_)); done)); replace RA : At w5 (w.heap.size + 1 + 1) [.int .i64 0, .int .i64 0] := At.below hB5 (by ((with_reducible repeat' (first | assumption | exact At.new1 _ _ _ | exact At.new2 _ _ _ _ | exact At.new3 _ _ _ _ _ | exact At.nx1 _ _ _ | exact At.nx2 _ _ _ _ | exact At.nx3 _ _ _ _ _ | exact At.ny1 _ _ _ _ | exact At.ny2 _ _ _ _ _ | exact At.ny3 _ _ _ _ _ _ | exact At.nz1 _ _ _ _ _ | exact At.nz2 _ _ _ _ _ _ | exact At.nz3 _ _ _ _ _ _ _ | exact Has.new1 _ _ _ | exact Has.new2 _ _ _ _ | exact Has.new3 _ _ _ _ _ | exact Has.nx1 _ _ _ | exact Has.nx2 _ _ _ _ | exact Has.nx3 _ _ _ _ _ | exact Has.ny1 _ _ _ _ | exact Has.ny2 _ _ _ _ _ | exact Has.ny3 _ _ _ _ _ _ | exact Has.nz1 _ _ _ _ _ | exact Has.nz2 _ _ _ _ _ _ | exact Has.nz3 _ _ _ _ _ _ _ | refine At.fill1 ?_ _ | refine At.fill2 ?_ _ _ | refine At.fill3 ?_ _ _ _ | refine At.swap ?_ (by first | omega | (simp; omega)) _ _ | refine At.alloc ?_ _ | refine At.drew ?_ | refine At.skip ?_ (by first | omega | (simp; omega)) _ _ | refine At.below (by assumption) ?_ | refine Has.alloc ?_ _ | refine Has.drew ?_ | refine Has.set ?_ _ _ _ | refine Has.below (by assumption) ?_)); done)); have hz5 := RA.lt; (first | (obtain ⟨n0, n1⟩ := NA.c2; obtain ⟨n2, n3⟩ := NA.f2; have NH := NA.has (n := 2) rfl) | skip))))
    all_goals
      go_wp2_with fail
      go_meet
      refine ⟨_, rfl, ?_, ?_, ?_, ?_, ?_, ?_⟩
    all_goals first | ((with_reducible repeat' (first | assumption | exact At.new1 _ _ _ | exact At.new2 _ _ _ _ | exact At.new3 _ _ _ _ _ | exact At.nx1 _ _ _ | exact At.nx2 _ _ _ _ | exact At.nx3 _ _ _ _ _ | exact At.ny1 _ _ _ _ | exact At.ny2 _ _ _ _ _ | exact At.ny3 _ _ _ _ _ _ | exact At.nz1 _ _ _ _ _ | exact At.nz2 _ _ _ _ _ _ | exact At.nz3 _ _ _ _ _ _ _ | exact Has.new1 _ _ _ | exact Has.new2 _ _ _ _ | exact Has.new3 _ _ _ _ _ | exact Has.nx1 _ _ _ | exact Has.nx2 _ _ _ _ | exact Has.nx3 _ _ _ _ _ | exact Has.ny1 _ _ _ _ | exact Has.ny2 _ _ _ _ _ | exact Has.ny3 _ _ _ _ _ _ | exact Has.nz1 _ _ _ _ _ | exact Has.nz2 _ _ _ _ _ _ | exact Has.nz3 _ _ _ _ _ _ _ | refine At.fill1 ?_ _ | refine At.fill2 ?_ _ _ | refine At.fill3 ?_ _ _ _ | refine At.swap ?_ (by first | omega | (simp; omega)) _ _ | refine At.alloc ?_ _ | refine At.drew ?_ | refine At.skip ?_ (by first | omega | (simp; omega)) _ _ | refine At.below (by assumption) ?_ | refine Has.alloc ?_ _ | refine Has.drew ?_ | refine Has.set ?_ _ _ _ | refine Has.below (by assumption) ?_)); done) | ((with_reducible repeat' (first | assumption | refine Gr.drew ?_ | refine Gr.alloc ?_ _ | refine Gr.set ?_ (by first | omega | (simp; omega)) _ _ | exact Gr.refl _)); done) | (simp; omega) | omega
  case rest =>
    clear HC PA QA RA
    obtain ⟨B9, rfl, SA, PA, QA, RA, HC, hlt⟩ := hcut
    clear PA QA HP1 HP1' HP2 HP2' HA
    obtain ⟨s0, s1⟩ := SA.c2
    by_cases cS : S < 0
    · have hsg : sg S = -1 := by unfold sg; rw [if_pos cS]
      rw [hsg] at HS
      rw [decide_eq_true cS] at HB
      have eS : -S = (m : Int) := by have := SM.out; omega
      rw [eS] at HN
      clear eS hsg
      go_wp2_with fail
      refine (HS.out _).mono ?_
      rintro e w4 ⟨rfl, hB⟩
      replace HC := Gr.step HC hB
      replace RA := At.below hB RA
      replace SA := At.below hB SA
      clear hB HS s0 s1
      obtain ⟨s0, s1⟩ := SA.c2
      go_wp2_with fail
      refine (HN.out _).mono ?_
      rintro e w5 ⟨rfl, hB⟩
      replace HC := Gr.step HC hB
      replace RA := At.below hB RA
      replace SA := At.below hB SA
      clear hB HN s0 s1
      obtain ⟨s0, s1⟩ := SA.c2
      obtain ⟨g0, g1⟩ := SA.f2
      go_upto_region 7 with fail
      have hB9 : w.heap.size ≤ B9 := by omega
      have hB9' : ¬ B9 = w.heap.size + 1 + 1 := by omega
      replace HC := (HC.set hB9 0 (.int .u64 (hi2 (m : Int)))).set hB9 1 (.int .u64 (lo2 (m : Int)))
      replace RA := (RA.skip hB9' 0 (.int .u64 (hi2 (m : Int)))).skip hB9' 1 (.int .u64 (lo2 (m : Int)))
      replace SA := At.fill2 (SA.has rfl) (.int .u64 (hi2 (m : Int))) (.int .u64 (lo2 (m : Int)))
      clear s0 s1 g0 g1
      generalize (w5.setCell ⟨B9, 0, none⟩ (.int .u64 (hi2 (m : Int)))).setCell ⟨B9, 1, none⟩ (.int .u64 (lo2 (m : Int))) = w5' at *
      obtain ⟨s0, s1⟩ := SA.c2
      go_wp2_with fail
      refine (HL.out _).mono ?_
      rintro e w6 ⟨rfl, hB⟩
      replace HC := Gr.step HC hB
      replace RA := At.below hB RA
      replace SA := At.below hB SA
      clear hB HL s0 s1
      obtain ⟨s0, s1⟩ := SA.c2
      go_wp2_with fail
      refine (HG2.out _).mono ?_
      rintro e w7 ⟨rfl, hB⟩
      replace HC := Gr.step HC hB
      replace RA := At.below hB RA
      replace SA := At.below hB SA
      clear hB HG2 s0 s1
      go_upto_region 8 with fail
      go_region_held (fun w' => w'.cell? ⟨B9, 0, none⟩ = some (.int .u64 (hi2 (m : Int))) ∧ w'.cell? ⟨B9, 1, none⟩ = some (.int .u64 (lo2 (m : Int))))
        ((refine At.c2 (a := .int .u64 (hi2 (m : Int))) (b := .int .u64 (lo2 (m : Int))) ?_; ((with_reducible repeat' (first | assumption | exact At.new1 _ _ _ | exact At.new2 _ _ _ _ | exact At.new3 _ _ _ _ _ | exact At.nx1 _ _ _ | exact At.nx2 _ _ _ _ | exact At.nx3 _ _ _ _ _ | exact At.ny1 _ _ _ _ | exact At.ny2 _ _ _ _ _ | exact At.ny3 _ _ _ _ _ _ | exact At.nz1 _ _ _ _ _ | exact At.nz2 _ _ _ _ _ _ | exact At.nz3 _ _ _ _ _ _ _ | exact Has.new1 _ _ _ | exact Has.new2 _ _ _ _ | exact Has.new3 _ _ _ _ _ | exact Has.nx1 _ _ _ | exact Has.nx2 _ _ _ _ | exact Has.nx3 _ _ _ _ _ | exact Has.ny1 _ _ _ _ | exact Has.ny2 _ _ _ _ _ | exact Has.ny3 _ _ _ _ _ _ | exact Has.nz1 _ _ _ _ _ | exact Has.nz2 _ _ _ _ _ _ | exact Has.nz3 _ _ _ _ _ _ _ | refine At.fill1 ?_ _ | refine At.fill2 ?_ _ _ | refine At.fill3 ?_ _ _ _ | refine At.swap ?_ (by first | omega | (simp; omega)) _ _ | refine At.alloc ?_ _ | refine At.drew ?_ | refine At.skip ?_ (by first | omega | (simp; omega)) _ _ | refine At.below (by assumption) ?_ | refine Has.alloc ?_ _ | refine Has.drew ?_ | refine Has.set ?_ _ _ _ | refine Has.below (by assumption) ?_)); done)))
        ((first
          | (go_at_call 74; with_reducible refine (HO.out _).mono ?_; rintro e w5 ⟨rfl, hB⟩; (with_reducible first | replace hB := undr hB | skip); replace HC := Gr.step HC hB; replace SA := At.below hB SA; replace RA := At.below hB RA; clear hB)
          | (go_at_call 69; (first | with_reducible refine (HM'.out _).mono ?_ | with_reducible refine (HM.out _).mono ?_); rintro e w5 ⟨rfl, hB⟩; (with_reducible first | replace hB := undr hB | skip); replace HC := Gr.step HC hB; replace SA := At.below hB SA; replace RA := At.below hB RA; clear hB)
          | (go_at_call 36; with_reducible refine (HB.out _ (hl.below (Gr.out (by ((with_reducible repeat' (first | assumption | refine Gr.drew ?_ | refine Gr.alloc ?_ _ | refine Gr.set ?_ (by first | omega | (simp; omega)) _ _ | exact Gr.refl _)); done))))).mono ?_; rintro e w5 ⟨rfl, hB⟩; (with_reducible first | replace hB := undr hB | skip); replace HC := Gr.step HC hB; replace SA := At.below hB SA; replace RA := At.below hB RA; clear hB; obtain ⟨r0, r1⟩ := RA.c2; obtain ⟨f0, f1⟩ := RA.f2)))
      all_goals go_wp2
      all_goals exact bodyPost_ret (v := .tuple #[.agg #[.int .i64 X, .int .i64 Z], E]) (by simp [results, Tryd.results51, go_sem, r0, r1]) rfl ⟨rfl, (HC.set hge _ _).set hge _ _⟩
    · have hsg : ¬ sg S < 0 := by unfold sg; rw [if_neg cS]; split <;> omega
      have hb : decide (S < 0) = decide (sg S < 0) := by rw [decide_eq_false cS, decide_eq_false hsg]
      rw [hb] at HB
      clear hb
      obtain rfl : S = (m : Int) := by have := SM.out; omega
      clear SM cS
      generalize sg (m : Int) = sgm at *
      go_wp2_with fail
      refine (HS.out _).mono ?_
      rintro e w4 ⟨rfl, hB⟩
      replace HC := Gr.step HC hB
      replace RA := At.below hB RA
      replace SA := At.below hB SA
      clear hB HS s0 s1 HN
      obtain ⟨s0, s1⟩ := SA.c2
      go_wp2_with fail
      refine (HL.out _).mono ?_
      rintro e w6 ⟨rfl, hB⟩
      replace HC := Gr.step HC hB
      replace RA := At.below hB RA
      replace SA := At.below hB SA
      clear hB HL s0 s1
      obtain ⟨s0, s1⟩ := SA.c2
      go_wp2_with fail
      refine (HG2.out _).mono ?_
      rintro e w7 ⟨rfl, hB⟩
      replace HC := Gr.step HC hB
      replace RA := At.below hB RA
      replace SA := At.below hB SA
      clear hB HG2 s0 s1
      go_upto_region 8 with fail
      go_region_held (fun w' => w'.cell? ⟨B9, 0, none⟩ = some (.int .u64 (hi2 (m : Int))) ∧ w'.cell? ⟨B9, 1, none⟩ = some (.int .u64 (lo2 (m : Int))))
        ((refine At.c2 (a := .int .u64 (hi2 (m : Int))) (b := .int .u64 (lo2 (m : Int))) ?_; ((with_reducible repeat' (first | assumption | exact At.new1 _ _ _ | exact At.new2 _ _ _ _ | exact At.new3 _ _ _ _ _ | exact At.nx1 _ _ _ | exact At.nx2 _ _ _ _ | exact At.nx3 _ _ _ _ _ | exact At.ny1 _ _ _ _ | exact At.ny2 _ _ _ _ _ | exact At.ny3 _ _ _ _ _ _ | exact At.nz1 _ _ _ _ _ | exact At.nz2 _ _ _ _ _ _ | exact At.nz3 _ _ _ _ _ _ _ | exact Has.new1 _ _ _ | exact Has.new2 _ _ _ _ | exact Has.new3 _ _ _ _ _ | exact Has.nx1 _ _ _ | exact Has.nx2 _ _ _ _ | exact Has.nx3 _ _ _ _ _ | exact Has.ny1 _ _ _ _ | exact Has.ny2 _ _ _ _ _ | exact Has.ny3 _ _ _ _ _ _ | exact Has.nz1 _ _ _ _ _ | exact Has.nz2 _ _ _ _ _ _ | exact Has.nz3 _ _ _ _ _ _ _ | refine At.fill1 ?_ _ | refine At.fill2 ?_ _ _ | refine At.fill3 ?_ _ _ _ | refine At.swap ?_ (by first | omega | (simp; omega)) _ _ | refine At.alloc ?_ _ | refine At.drew ?_ | refine At.skip ?_ (by first | omega | (simp; omega)) _ _ | refine At.below (by assumption) ?_ | refine Has.alloc ?_ _ | refine Has.drew ?_ | refine Has.set ?_ _ _ _ | refine Has.below (by assumption) ?_)); done)))
        ((first
          | (go_at_call 74; with_reducible refine (HO.out _).mono ?_; rintro e w5 ⟨rfl, hB⟩; (with_reducible first | replace hB := undr hB | skip); replace HC := Gr.step HC hB; replace SA := At.below hB SA; replace RA := At.below hB RA; clear hB)
          | (go_at_call 69; (first | with_reducible refine (HM'.out _).mono ?_ | with_reducible refine (HM.out _).mono ?_); rintro e w5 ⟨rfl, hB⟩; (with_reducible first | replace hB := undr hB | skip); replace HC := Gr.step HC hB; replace SA := At.below hB SA; replace RA := At.below hB RA; clear hB)
          | (go_at_call 36; with_reducible refine (HB.out _ (hl.below (Gr.out (by ((with_reducible repeat' (first | assumption | refine Gr.drew ?_ | refine Gr.alloc ?_ _ | refine Gr.set ?_ (by first | omega | (simp; omega)) _ _ | exact Gr.refl _)); done))))).mono ?_; rintro e w5 ⟨rfl, hB⟩; (with_reducible first | replace hB := undr hB | skip); replace HC := Gr.step HC hB; replace SA := At.below hB SA; replace RA := At.below hB RA; clear hB; obtain ⟨r0, r1⟩ := RA.c2; obtain ⟨f0, f1⟩ := RA.f2)))
      all_goals go_wp2
      all_goals exact bodyPost_ret (v := .tuple #[.agg #[.int .i64 X, .int .i64 Z], E]) (by simp [results, Tryd.results51, go_sem, r0, r1]) rfl ⟨rfl, (HC.set hge _ _).set hge _ _⟩
end Go.Proofs.YtgjjgicojedefaaDoor
