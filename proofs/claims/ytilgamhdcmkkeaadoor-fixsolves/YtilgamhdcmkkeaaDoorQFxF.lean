/-
  mercatorref3.CirclesOf, of two points.
-/
import Derived.Test.YtilgamhdcmkkeaaDoorQFxE
import Derived.Deep.RegionLaw
namespace Go.Proofs.YtilgamhdcmkkeaaDoor
open Go.RowKit BG
attribute [local go_sem ↓] Go.wp_at_zero Go.wp_at_succ

theorem br_mul {x y : Int} {a b : Nat} (hx : x.natAbs < 2 ^ a) (hy : y.natAbs < 2 ^ b) : (x * y).natAbs < 2 ^ (a + b) := bw_mul hx hy
/-- What lies in memory: both ranges, the answer, the nothing. -/
structure CW (W : World) (B : Nat) (a b : Rg) : Prop where
  fa : At W B [.int .i64 a.x, .int .i64 a.y, .int .i64 a.q]
  fb : At W (B + 1) [.int .i64 b.x, .int .i64 b.y, .int .i64 b.q]
  fr : At W (B + 1 + 1) [.int .i64 0, .int .i64 0]
  fn : At W (B + 1 + 1 + 1) [.int .i64 0, .int .i64 1]
theorem CW.below {W w' : World} {B : Nat} {a b : Rg} (hB : Below W.heap.size W w') (h : CW W B a b) : CW w' B a b := ⟨At.below hB h.fa, At.below hB h.fb, At.below hB h.fr, At.below hB h.fn⟩
theorem CW.alloc {W : World} {B : Nat} {a b : Rg} (h : CW W B a b) (o : Obj) : CW (W.alloc o) B a b := ⟨h.fa.alloc o, h.fb.alloc o, h.fr.alloc o, h.fn.alloc o⟩
theorem CW.drew {W : World} {B : Nat} {a b : Rg} (h : CW W B a b) : CW W.drew B a b := ⟨h.fa.drew, h.fb.drew, h.fr.drew, h.fn.drew⟩
theorem Sg.alloc {W : World} {m : Bool} {v : Value} {z : Int} (h : Sg W m v z) (o : Obj) : Sg (W.alloc o) m v z := h.below ((Below.refl _ _).alloc (Nat.le_refl _) o)
theorem At.new2d' (W : World) (a b : Value) (t : Nat) : At (W.drew.alloc (.cells #[a, b] t)) W.heap.size [a, b] := At.new2 W.drew a b t
theorem CW.init (w : World) (a b : Rg) (t t' : Nat) : CW ((((w.alloc (.cells #[.int .i64 a.x, .int .i64 a.y, .int .i64 a.q] t)).alloc (.cells #[.int .i64 b.x, .int .i64 b.y, .int .i64 b.q] t)).alloc (.cells #[.int .i64 0, .int .i64 0] t')).alloc (.cells #[.int .i64 0, .int .i64 1] t')) w.heap.size a b :=
  ⟨(((At.new3 w _ _ _ t).alloc _).alloc _).alloc _, ((At.nx3 (W := w) _ _ _ _ t).alloc _).alloc _, (At.ny2 (W := w) _ _ _ _ t').alloc _, At.nz2 (W := w) _ _ _ _ _ t'⟩
/-- What the walk is handed. -/
structure CF (ax ay aq bx b_y bq d mi : Int) : Prop where
  wx : IntKind.i64.wrap (ax - bx) = ax - bx
  wy : IntKind.i64.wrap (ay - b_y) = ay - b_y
  wxx : IntKind.i64.wrap ((ax - bx) * (ax - bx)) = (ax - bx) * (ax - bx)
  wyy : IntKind.i64.wrap ((ay - b_y) * (ay - b_y)) = (ay - b_y) * (ay - b_y)
  wd : IntKind.i64.wrap ((ax - bx) * (ax - bx) + (ay - b_y) * (ay - b_y)) = d
  wdp : IntKind.i64.wrap (d + aq) = d + aq
  wmi : IntKind.i64.wrap (d + aq - bq) = mi
  d0 : ¬ d = 0
  k1 : Wd d
  k2 : Wd mi
  k3 : Wd aq
  n1 : ¬ d = -9223372036854775808
  n2 : ¬ mi = -9223372036854775808
  n3 : ¬ aq = -9223372036854775808
  b1 : Br d
  b2 : Br mi
  b3 : Br aq
  b4 : Br (4 * aq)
  b5 : Br (4 * aq * d)
  b6 : Br (mi * mi)
  b7 : Br (4 * aq * d - mi * mi)
theorem CF.of {ax ay aq bx b_y bq : Int} (h : okR ⟨ax, ay, aq⟩ ∧ okR ⟨bx, b_y, bq⟩) (hx : ¬ (ax = bx ∧ ay = b_y)) : CF ax ay aq bx b_y bq (far ax ay bx b_y) (far ax ay bx b_y + aq - bq) := by
  obtain ⟨f1, f2⟩ := far_bd (x := ax) (y := ay) (a := bx) (b := b_y) h.1.1 h.2.1
  have hd : ¬ far ax ay bx b_y = 0 := fun e => hx (far_zero e)
  obtain ⟨⟨⟨⟨h1, h2⟩, h3, h4⟩, h5, h6⟩, ⟨⟨k1, k2⟩, k3, k4⟩, k5, k6⟩ := h
  dsimp only at *
  obtain ⟨e1, e2⟩ := sq_le (x := ax - bx) (b := 33554432) (by omega) (by omega)
  obtain ⟨e3, e4⟩ := sq_le (x := ay - b_y) (b := 33554432) (by omega) (by omega)
  have m1 : (far ax ay bx b_y + aq - bq).natAbs < 2 ^ 54 := by omega
  have m2 : (far ax ay bx b_y).natAbs < 2 ^ 54 := by omega
  have m3 : (4 * aq).natAbs < 2 ^ 56 := by omega
  have q1 := bw_mul m3 m2
  have q2 := bw_mul m1 m1
  refine ⟨wr_in (by omega) (by omega), wr_in (by omega) (by omega), wr_in (by omega) (by omega), wr_in (by omega) (by omega), ?_, wr_in (by omega) (by omega), wr_in (by omega) (by omega), hd, ⟨by omega, by omega⟩, ⟨by omega, by omega⟩, ⟨by omega, by omega⟩, by omega, by omega, by omega, br_lt m2 (by decide), br_lt m1 (by decide), br_lt (k := 60) (by omega) (by decide), br_lt m3 (by decide), br_lt q1 (by decide), br_lt q2 (by decide), br_lt (k := 111) (by omega) (by decide)⟩
  show IntKind.i64.wrap (far ax ay bx b_y) = _
  exact wr_in (by omega) (by omega)
theorem chd_eq (d p q : Int) : 4 * p * d - (d + p - q) * (d + p - q) = chd d p q := by
  unfold chd; rw [Int.mul_assoc, Int.mul_comm p d, ← Int.mul_assoc]
/-- The answer, by the number that is looked at. -/
def CP (z d N3 C3 : Int) (V3 : Value) : Prop :=
  (z < 0 ∧ N3 = 0 ∧ V3 = .agg #[.int .i64 0, .int .i64 1] ∧ C3 = 0) ∨ (z = 0 ∧ N3 = 1 ∧ V3 = .agg #[.int .i64 0, .int .i64 1] ∧ C3 = 0) ∨ (0 < z ∧ qf z d = true ∧ N3 = 2 ∧ V3 = .agg #[.int .i64 (qx z d), .int .i64 (qy z d)] ∧ C3 = 0) ∨ (0 < z ∧ qf z d = false ∧ N3 = 0 ∧ V3 = fr0 ∧ C3 = 2)
set_option maxRecDepth 4000 in
set_option maxHeartbeats 16000000 in
theorem circles_far (ax ay aq bx b_y bq d mi : Int) (cf : CF ax ay aq bx b_y bq d mi) (N3 C3 : Int) (V3 : Value) (hp : CP (4 * aq * d - mi * mi) d N3 C3 V3) (w : World) : Calls Tryd.prog 21 #[(⟨ax, ay, aq⟩ : Rg).v, (⟨bx, b_y, bq⟩ : Rg).v] w fun e w' => e = .returned (.tuple #[.int .i64 N3, V3, .int .i64 C3]) ∧ Gr w w' := by
  have HPN := hidb hp
  clear hp
  obtain ⟨c1, c2, c3, c4, c5, c6, c7, d0, k1, k2, k3, n1, n2, n3, b1, b2, b3, b4, b5, b6, b7⟩ := cf
  obtain ⟨u, hu⟩ : ∃ u, u = ax - bx := ⟨_, rfl⟩
  obtain ⟨t, ht⟩ : ∃ t, t = ay - b_y := ⟨_, rfl⟩
  rw [← hu] at c1 c3 c5
  rw [← ht] at c2 c4 c5
  obtain ⟨uu, huu⟩ : ∃ uu, uu = u * u := ⟨_, rfl⟩
  obtain ⟨tt, htt⟩ : ∃ tt, tt = t * t := ⟨_, rfl⟩
  rw [← huu] at c3 c5
  rw [← htt] at c4 c5
  obtain ⟨dp, hdp⟩ : ∃ dp, dp = d + aq := ⟨_, rfl⟩
  rw [← hdp] at c6 c7
  have e1 : IntKind.i64.wrap (ax - bx) = u := by rw [← hu]; exact c1
  have e2 : IntKind.i64.wrap (ay - b_y) = t := by rw [← ht]; exact c2
  have e3 : IntKind.i64.wrap (u * u) = uu := by rw [← huu]; exact c3
  have e4 : IntKind.i64.wrap (t * t) = tt := by rw [← htt]; exact c4
  have e6 : IntKind.i64.wrap (d + aq) = dp := by rw [← hdp]; exact c6
  have o4 : Wd 4 := by unfold Wd; omega
  have s4 : ¬ (4 : Int) = -9223372036854775808 := by omega
  have b8 : Br 4 := br_lt (k := 3) (by decide) (by decide)
  have HOm := hidb (fun w => ofS' mi k2 n2 w)
  clear c1 c2 c3 c4 c6 hu ht huu htt hdp
  have VV := CW.init w ⟨ax, ay, aq⟩ ⟨bx, b_y, bq⟩ 58 25
  have HC : Gr w ((((w.alloc (.cells #[.int .i64 ax, .int .i64 ay, .int .i64 aq] 58)).alloc (.cells #[.int .i64 bx, .int .i64 b_y, .int .i64 bq] 58)).alloc (.cells #[.int .i64 0, .int .i64 0] 25)).alloc (.cells #[.int .i64 0, .int .i64 1] 25)) := ((((Gr.refl w).alloc _).alloc _).alloc _).alloc _
  dsimp only at VV
  go_enter Tryd.func21, Tryd.ntmps21
  go_wp2_with fail
  generalize ((((w.alloc (.cells #[.int .i64 ax, .int .i64 ay, .int .i64 aq] 58)).alloc (.cells #[.int .i64 bx, .int .i64 b_y, .int .i64 bq] 58)).alloc (.cells #[.int .i64 0, .int .i64 0] 25)).alloc (.cells #[.int .i64 0, .int .i64 1] 25)) = w1 at *
  refine (HOm.out _).mono ?_
  rintro e w2 ⟨m0, u0, rfl, h0, hB, _⟩
  obtain ⟨ad0, cap0, hf0⟩ := h0.form'
  subst hf0
  replace VV := VV.below hB
  replace HC := Gr.step HC hB
  obtain ⟨L0, hL0⟩ : ∃ L0, L0 = (dn mi.natAbs).length := ⟨_, rfl⟩
  rw [← hL0] at h0 ⊢
  clear hB HOm hL0
  have M1 := At.new2 w2 (.bool m0) (.slice ad0 L0 cap0) 38
  obtain ⟨M, hM⟩ : ∃ M, M = w2.heap.size := ⟨_, rfl⟩
  rw [← hM] at M1
  have hMl : w.heap.size + 1 + 1 + 1 < M := by rw [hM]; exact VV.fn.lt
  replace VV := VV.alloc (.cells #[.bool m0, .slice ad0 L0 cap0] 38)
  replace HC := HC.alloc (.cells #[.bool m0, .slice ad0 L0 cap0] 38)
  have HM := hidb (h0.below ((Below.refl _ _).alloc (Nat.le_refl _) (.cells #[.bool m0, .slice ad0 L0 cap0] 38)))
  clear h0
  go_upto_region 12 with fail
  rw [← hM]
  clear hM
  generalize w2.alloc (.cells #[.bool m0, .slice ad0 L0 cap0] 38) = w3 at *
  go_cut [12] from 65 to 72 (fun s12 wx => ∃ B o t, s12 = .pointer (some ⟨B, 0, none⟩) ∧ At wx B [.bool o, t] ∧ Hid (Sg wx o t (4 * aq * d)) ∧ CW wx w.heap.size ⟨ax, ay, aq⟩ ⟨bx, b_y, bq⟩ ∧ At wx M [.bool m0, .slice ad0 L0 cap0] ∧ Hid (Sg wx m0 (.slice ad0 L0 cap0) mi) ∧ Gr w wx ∧ M < B)
  case first =>
    have lt3 := M1.lt
    obtain ⟨FA, FB, FR, FN⟩ := VV
    dsimp only at FA FB
    have hsz : w.heap.size ≤ w3.heap.size := HC.out.size
    go_region_held (fun w' => w'.cell? ⟨w.heap.size, 2, none⟩ = some (.int .i64 aq))
      ((refine (At.c3 (B := w.heap.size) (a := .int .i64 ax) (b := .int .i64 ay) (c := .int .i64 aq) ?_).2.2; ((with_reducible repeat' (first | assumption | exact At.new1 _ _ _ | exact At.new2 _ _ _ _ | exact At.new3 _ _ _ _ _ | exact At.nx1 _ _ _ | exact At.nx2 _ _ _ _ | exact At.nx3 _ _ _ _ _ | exact At.ny1 _ _ _ _ | exact At.ny2 _ _ _ _ _ | exact At.ny3 _ _ _ _ _ _ | exact At.nz1 _ _ _ _ _ | exact At.nz2 _ _ _ _ _ _ | exact At.nz3 _ _ _ _ _ _ _ | exact Has.new1 _ _ _ | exact Has.new2 _ _ _ _ | exact Has.new3 _ _ _ _ _ | exact Has.nx1 _ _ _ | exact Has.nx2 _ _ _ _ | exact Has.nx3 _ _ _ _ _ | exact Has.ny1 _ _ _ _ | exact Has.ny2 _ _ _ _ _ | exact Has.ny3 _ _ _ _ _ _ | exact Has.nz1 _ _ _ _ _ | exact Has.nz2 _ _ _ _ _ _ | exact Has.nz3 _ _ _ _ _ _ _ | refine At.fill1 ?_ _ | refine At.fill2 ?_ _ _ | refine At.fill3 ?_ _ _ _ | refine At.swap ?_ (by first | omega | (simp; omega)) _ _ | refine At.alloc ?_ _ | refine At.drew ?_ | refine At.skip ?_ (by first | omega | (simp; omega)) _ _ | refine At.below (by assumption) ?_ | refine Has.alloc ?_ _ | refine Has.drew ?_ | refine Has.set ?_ _ _ _ | refine Has.below (by assumption) ?_)); done)))
      ((first
        | (go_at_call 29; refine (ofS' _ (by with_reducible assumption) (by with_reducible assumption) _).mono ?_; rintro e w5 ⟨m5, v5, rfl, h5, hB5, hs5⟩; (with_reducible first | replace NA := At.below hB5 NA | have NA := At.below hB5 (At.new2d' _ _ _ _) | have NA := At.below hB5 (At.drew (At.new2 _ _ _ _)) | have NA := At.below hB5 (At.new2 _ _ _ _) | skip); (try simp at hs5); have hz5 : w3.heap.size < w5.heap.size := (by omega); replace HC : Gr w w5 := Gr.step (by ((with_reducible repeat' (first | assumption | refine Gr.drew ?_ | refine Gr.alloc ?_ _ | refine Gr.set ?_ (by first | omega | (simp; omega)) _ _ | exact Gr.refl _)); done)) hB5; replace FA : At w5 w.heap.size [.int .i64 ax, .int .i64 ay, .int .i64 aq] := At.below hB5 (by ((with_reducible repeat' (first | assumption | exact At.new1 _ _ _ | exact At.new2 _ _ _ _ | exact At.new3 _ _ _ _ _ | exact At.nx1 _ _ _ | exact At.nx2 _ _ _ _ | exact At.nx3 _ _ _ _ _ | exact At.ny1 _ _ _ _ | exact At.ny2 _ _ _ _ _ | exact At.ny3 _ _ _ _ _ _ | exact At.nz1 _ _ _ _ _ | exact At.nz2 _ _ _ _ _ _ | exact At.nz3 _ _ _ _ _ _ _ | exact Has.new1 _ _ _ | exact Has.new2 _ _ _ _ | exact Has.new3 _ _ _ _ _ | exact Has.nx1 _ _ _ | exact Has.nx2 _ _ _ _ | exact Has.nx3 _ _ _ _ _ | exact Has.ny1 _ _ _ _ | exact Has.ny2 _ _ _ _ _ | exact Has.ny3 _ _ _ _ _ _ | exact Has.nz1 _ _ _ _ _ | exact Has.nz2 _ _ _ _ _ _ | exact Has.nz3 _ _ _ _ _ _ _ | refine At.fill1 ?_ _ | refine At.fill2 ?_ _ _ | refine At.fill3 ?_ _ _ _ | refine At.swap ?_ (by first | omega | (simp; omega)) _ _ | refine At.alloc ?_ _ | refine At.drew ?_ | refine At.skip ?_ (by first | omega | (simp; omega)) _ _ | refine At.below (by assumption) ?_ | refine Has.alloc ?_ _ | refine Has.drew ?_ | refine Has.set ?_ _ _ _ | refine Has.below (by assumption) ?_)); done)); replace FB : At w5 (w.heap.size + 1) [.int .i64 bx, .int .i64 b_y, .int .i64 bq] := At.below hB5 (by ((with_reducible repeat' (first | assumption | exact At.new1 _ _ _ | exact At.new2 _ _ _ _ | exact At.new3 _ _ _ _ _ | exact At.nx1 _ _ _ | exact At.nx2 _ _ _ _ | exact At.nx3 _ _ _ _ _ | exact At.ny1 _ _ _ _ | exact At.ny2 _ _ _ _ _ | exact At.ny3 _ _ _ _ _ _ | exact At.nz1 _ _ _ _ _ | exact At.nz2 _ _ _ _ _ _ | exact At.nz3 _ _ _ _ _ _ _ | exact Has.new1 _ _ _ | exact Has.new2 _ _ _ _ | exact Has.new3 _ _ _ _ _ | exact Has.nx1 _ _ _ | exact Has.nx2 _ _ _ _ | exact Has.nx3 _ _ _ _ _ | exact Has.ny1 _ _ _ _ | exact Has.ny2 _ _ _ _ _ | exact Has.ny3 _ _ _ _ _ _ | exact Has.nz1 _ _ _ _ _ | exact Has.nz2 _ _ _ _ _ _ | exact Has.nz3 _ _ _ _ _ _ _ | refine At.fill1 ?_ _ | refine At.fill2 ?_ _ _ | refine At.fill3 ?_ _ _ _ | refine At.swap ?_ (by first | omega | (simp; omega)) _ _ | refine At.alloc ?_ _ | refine At.drew ?_ | refine At.skip ?_ (by first | omega | (simp; omega)) _ _ | refine At.below (by assumption) ?_ | refine Has.alloc ?_ _ | refine Has.drew ?_ | refine Has.set ?_ _ _ _ | refine Has.below (by assumption) ?_)); done)); replace FR : At w5 (w.heap.size + 1 + 1) [.int .i64 0, .int .i64 0] := At.below hB5 (by ((with_reducible repeat' (first | assumption | exact At.new1 _ _ _ | exact At.new2 _ _ _ _ | exact At.new3 _ _ _ _ _ | exact At.nx1 _ _ _ | exact At.nx2 _ _ _ _ | exact At.nx3 _ _ _ _ _ | exact At.ny1 _ _ _ _ | exact At.ny2 _ _ _ _ _ | exact At.ny3 _ _ _ _ _ _ | exact At.nz1 _ _ _ _ _ | exact At.nz2 _ _ _ _ _ _ | exact At.nz3 _ _ _ _ _ _ _ | exact Has.new1 _ _ _ | exact Has.new2 _ _ _ _ | exact Has.new3 _ _ _ _ _ | exact Has.nx1 _ _ _ | exact Has.nx2 _ _ _ _ | exact Has.nx3 _ _ _ _ _ | exact Has.ny1 _ _ _ _ | exact Has.ny2 _ _ _ _ _ | exact Has.ny3 _ _ _ _ _ _ | exact Has.nz1 _ _ _ _ _ | exact Has.nz2 _ _ _ _ _ _ | exact Has.nz3 _ _ _ _ _ _ _ | refine At.fill1 ?_ _ | refine At.fill2 ?_ _ _ | refine At.fill3 ?_ _ _ _ | refine At.swap ?_ (by first | omega | (simp; omega)) _ _ | refine At.alloc ?_ _ | refine At.drew ?_ | refine At.skip ?_ (by first | omega | (simp; omega)) _ _ | refine At.below (by assumption) ?_ | refine Has.alloc ?_ _ | refine Has.drew ?_ | refine Has.set ?_ _ _ _ | refine Has.below (by assumption) ?_)); done)); replace FN : At w5 (w.heap.size + 1 + 1 + 1) [.int .i64 0, .int .i64 1] := At.below hB5 (by ((with_reducible repeat' (first | assumption | exact At.new1 _ _ _ | exact At.new2 _ _ _ _ | exact At.new3 _ _ _ _ _ | exact At.nx1 _ _ _ | exact At.nx2 _ _ _ _ | exact At.nx3 _ _ _ _ _ | exact At.ny1 _ _ _ _ | exact At.ny2 _ _ _ _ _ | exact At.ny3 _ _ _ _ _ _ | exact At.nz1 _ _ _ _ _ | exact At.nz2 _ _ _ _ _ _ | exact At.nz3 _ _ _ _ _ _ _ | exact Has.new1 _ _ _ | exact Has.new2 _ _ _ _ | exact Has.new3 _ _ _ _ _ | exact Has.nx1 _ _ _ | exact Has.nx2 _ _ _ _ | exact Has.nx3 _ _ _ _ _ | exact Has.ny1 _ _ _ _ | exact Has.ny2 _ _ _ _ _ | exact Has.ny3 _ _ _ _ _ _ | exact Has.nz1 _ _ _ _ _ | exact Has.nz2 _ _ _ _ _ _ | exact Has.nz3 _ _ _ _ _ _ _ | refine At.fill1 ?_ _ | refine At.fill2 ?_ _ _ | refine At.fill3 ?_ _ _ _ | refine At.swap ?_ (by first | omega | (simp; omega)) _ _ | refine At.alloc ?_ _ | refine At.drew ?_ | refine At.skip ?_ (by first | omega | (simp; omega)) _ _ | refine At.below (by assumption) ?_ | refine Has.alloc ?_ _ | refine Has.drew ?_ | refine Has.set ?_ _ _ _ | refine Has.below (by assumption) ?_)); done)); replace M1 : At w5 M [.bool m0, .slice ad0 L0 cap0] := At.below hB5 (by ((with_reducible repeat' (first | assumption | exact At.new1 _ _ _ | exact At.new2 _ _ _ _ | exact At.new3 _ _ _ _ _ | exact At.nx1 _ _ _ | exact At.nx2 _ _ _ _ | exact At.nx3 _ _ _ _ _ | exact At.ny1 _ _ _ _ | exact At.ny2 _ _ _ _ _ | exact At.ny3 _ _ _ _ _ _ | exact At.nz1 _ _ _ _ _ | exact At.nz2 _ _ _ _ _ _ | exact At.nz3 _ _ _ _ _ _ _ | exact Has.new1 _ _ _ | exact Has.new2 _ _ _ _ | exact Has.new3 _ _ _ _ _ | exact Has.nx1 _ _ _ | exact Has.nx2 _ _ _ _ | exact Has.nx3 _ _ _ _ _ | exact Has.ny1 _ _ _ _ | exact Has.ny2 _ _ _ _ _ | exact Has.ny3 _ _ _ _ _ _ | exact Has.nz1 _ _ _ _ _ | exact Has.nz2 _ _ _ _ _ _ | exact Has.nz3 _ _ _ _ _ _ _ | refine At.fill1 ?_ _ | refine At.fill2 ?_ _ _ | refine At.fill3 ?_ _ _ _ | refine At.swap ?_ (by first | omega | (simp; omega)) _ _ | refine At.alloc ?_ _ | refine At.drew ?_ | refine At.skip ?_ (by first | omega | (simp; omega)) _ _ | refine At.below (by assumption) ?_ | refine Has.alloc ?_ _ | refine Has.drew ?_ | refine Has.set ?_ _ _ _ | refine Has.below (by assumption) ?_)); done)); replace HM : Hid (Sg w5 m0 (.slice ad0 L0 cap0) mi) := hidb (Sg.below (by first | exact HM.out | exact HM.out.drew | exact HM.out.alloc _ | exact HM.out.drew.alloc _) hB5))
        | (go_at_call 31; refine (mulS' (x := ?gx) (y := ?gy) ?gh ?gk ?gl ?gm).mono ?_; (case gh => ((with_reducible repeat' (first | assumption | refine Sg.drew ?_ | refine Sg.alloc ?_ _ | refine Sg.step (by assumption) ?_)); done)); (case gk => ((with_reducible repeat' (first | assumption | refine Sg.drew ?_ | refine Sg.alloc ?_ _ | refine Sg.step (by assumption) ?_)); done)); (case gl => with_reducible assumption); (case gm => with_reducible assumption); rintro e w5 ⟨m5, v5, rfl, h5, hB5, hs5⟩; (with_reducible first | replace NA := At.below hB5 NA | have NA := At.below hB5 (At.new2d' _ _ _ _) | have NA := At.below hB5 (At.drew (At.new2 _ _ _ _)) | have NA := At.below hB5 (At.new2 _ _ _ _) | skip); (try simp at hs5); have hz5 : w3.heap.size < w5.heap.size := (by omega); replace HC : Gr w w5 := Gr.step (by ((with_reducible repeat' (first | assumption | refine Gr.drew ?_ | refine Gr.alloc ?_ _ | refine Gr.set ?_ (by first | omega | (simp; omega)) _ _ | exact Gr.refl _)); done)) hB5; replace FA : At w5 w.heap.size [.int .i64 ax, .int .i64 ay, .int .i64 aq] := At.below hB5 (by ((with_reducible repeat' (first | assumption | exact At.new1 _ _ _ | exact At.new2 _ _ _ _ | exact At.new3 _ _ _ _ _ | exact At.nx1 _ _ _ | exact At.nx2 _ _ _ _ | exact At.nx3 _ _ _ _ _ | exact At.ny1 _ _ _ _ | exact At.ny2 _ _ _ _ _ | exact At.ny3 _ _ _ _ _ _ | exact At.nz1 _ _ _ _ _ | exact At.nz2 _ _ _ _ _ _ | exact At.nz3 _ _ _ _ _ _ _ | exact Has.new1 _ _ _ | exact Has.new2 _ _ _ _ | exact Has.new3 _ _ _ _ _ | exact Has.nx1 _ _ _ | exact Has.nx2 _ _ _ _ | exact Has.nx3 _ _ _ _ _ | exact Has.ny1 _ _ _ _ | exact Has.ny2 _ _ _ _ _ | exact Has.ny3 _ _ _ _ _ _ | exact Has.nz1 _ _ _ _ _ | exact Has.nz2 _ _ _ _ _ _ | exact Has.nz3 _ _ _ _ _ _ _ | refine At.fill1 ?_ _ | refine At.fill2 ?_ _ _ | refine At.fill3 ?_ _ _ _ | refine At.swap ?_ (by first | omega | (simp; omega)) _ _ | refine At.alloc ?_ _ | refine At.drew ?_ | refine At.skip ?_ (by first | omega | (simp; omega)) _ _ | refine At.below (by assumption) ?_ | refine Has.alloc ?_ _ | refine Has.drew ?_ | refine Has.set ?_ _ _ _ | refine Has.below (by assumption) ?_)); done)); replace FB : At w5 (w.heap.size + 1) [.int .i64 bx, .int .i64 b_y, .int .i64 bq] := At.below hB5 (by ((with_reducible repeat' (first | assumption | exact At.new1 _ _ _ | exact At.new2 _ _ _ _ | exact At.new3 _ _ _ _ _ | exact At.nx1 _ _ _ | exact At.nx2 _ _ _ _ | exact At.nx3 _ _ _ _ _ | exact At.ny1 _ _ _ _ | exact At.ny2 _ _ _ _ _ | exact At.ny3 _ _ _ _ _ _ | exact At.nz1 _ _ _ _ _ | exact At.nz2 _ _ _ _ _ _ | exact At.nz3 _ _ _ _ _ _ _ | exact Has.new1 _ _ _ | exact Has.new2 _ _ _ _ | exact Has.new3 _ _ _ _ _ | exact Has.nx1 _ _ _ | exact Has.nx2 _ _ _ _ | exact Has.nx3 _ _ _ _ _ | exact Has.ny1 _ _ _ _ | exact Has.ny2 _ _ _ _ _ | exact Has.ny3 _ _ _ _ _ _ | exact Has.nz1 _ _ _ _ _ | exact Has.nz2 _ _ _ _ _ _ | exact Has.nz3 _ _ _ _ _ _ _ | refine At.fill1 ?_ _ | refine At.fill2 ?_ _ _ | refine At.fill3 ?_ _ _ _ | refine At.swap ?_ (by first | omega | (simp; omega)) _ _ | refine At.alloc ?_ _ | refine At.drew ?_ | refine At.skip ?_ (by first | omega | (simp; omega)) _ _ | refine At.below (by assumption) ?_ | refine Has.alloc ?_ _ | refine Has.drew ?_ | refine Has.set ?_ _ _ _ | refine Has.below (by assumption) ?_)); done)); replace FR : At w5 (w.heap.size + 1 + 1) [.int .i64 0, .int .i64 0] := At.below hB5 (by ((with_reducible repeat' (first | assumption | exact At.new1 _ _ _ | exact At.new2 _ _ _ _ | exact At.new3 _ _ _ _ _ | exact At.nx1 _ _ _ | exact At.nx2 _ _ _ _ | exact At.nx3 _ _ _ _ _ | exact At.ny1 _ _ _ _ | exact At.ny2 _ _ _ _ _ | exact At.ny3 _ _ _ _ _ _ | exact At.nz1 _ _ _ _ _ | exact At.nz2 _ _ _ _ _ _ | exact At.nz3 _ _ _ _ _ _ _ | exact Has.new1 _ _ _ | exact Has.new2 _ _ _ _ | exact Has.new3 _ _ _ _ _ | exact Has.nx1 _ _ _ | exact Has.nx2 _ _ _ _ | exact Has.nx3 _ _ _ _ _ | exact Has.ny1 _ _ _ _ | exact Has.ny2 _ _ _ _ _ | exact Has.ny3 _ _ _ _ _ _ | exact Has.nz1 _ _ _ _ _ | exact Has.nz2 _ _ _ _ _ _ | exact Has.nz3 _ _ _ _ _ _ _ | refine At.fill1 ?_ _ | refine At.fill2 ?_ _ _ | refine At.fill3 ?_ _ _ _ | refine At.swap ?_ (by first | omega | (simp; omega)) _ _ | refine At.alloc ?_ _ | refine At.drew ?_ | refine At.skip ?_ (by first | omega | (simp; omega)) _ _ | refine At.below (by assumption) ?_ | refine Has.alloc ?_ _ | refine Has.drew ?_ | refine Has.set ?_ _ _ _ | refine Has.below (by assumption) ?_)); done)); replace FN : At w5 (w.heap.size + 1 + 1 + 1) [.int .i64 0, .int .i64 1] := At.below hB5 (by ((with_reducible repeat' (first | assumption | exact At.new1 _ _ _ | exact At.new2 _ _ _ _ | exact At.new3 _ _ _ _ _ | exact At.nx1 _ _ _ | exact At.nx2 _ _ _ _ | exact At.nx3 _ _ _ _ _ | exact At.ny1 _ _ _ _ | exact At.ny2 _ _ _ _ _ | exact At.ny3 _ _ _ _ _ _ | exact At.nz1 _ _ _ _ _ | exact At.nz2 _ _ _ _ _ _ | exact At.nz3 _ _ _ _ _ _ _ | exact Has.new1 _ _ _ | exact Has.new2 _ _ _ _ | exact Has.new3 _ _ _ _ _ | exact Has.nx1 _ _ _ | exact Has.nx2 _ _ _ _ | exact Has.nx3 _ _ _ _ _ | exact Has.ny1 _ _ _ _ | exact Has.ny2 _ _ _ _ _ | exact Has.ny3 _ _ _ _ _ _ | exact Has.nz1 _ _ _ _ _ | exact Has.nz2 _ _ _ _ _ _ | exact Has.nz3 _ _ _ _ _ _ _ | refine At.fill1 ?_ _ | refine At.fill2 ?_ _ _ | refine At.fill3 ?_ _ _ _ | refine At.swap ?_ (by first | omega | (simp; omega)) _ _ | refine At.alloc ?_ _ | refine At.drew ?_ | refine At.skip ?_ (by first | omega | (simp; omega)) _ _ | refine At.below (by assumption) ?_ | refine Has.alloc ?_ _ | refine Has.drew ?_ | refine Has.set ?_ _ _ _ | refine Has.below (by assumption) ?_)); done)); replace M1 : At w5 M [.bool m0, .slice ad0 L0 cap0] := At.below hB5 (by ((with_reducible repeat' (first | assumption | exact At.new1 _ _ _ | exact At.new2 _ _ _ _ | exact At.new3 _ _ _ _ _ | exact At.nx1 _ _ _ | exact At.nx2 _ _ _ _ | exact At.nx3 _ _ _ _ _ | exact At.ny1 _ _ _ _ | exact At.ny2 _ _ _ _ _ | exact At.ny3 _ _ _ _ _ _ | exact At.nz1 _ _ _ _ _ | exact At.nz2 _ _ _ _ _ _ | exact At.nz3 _ _ _ _ _ _ _ | exact Has.new1 _ _ _ | exact Has.new2 _ _ _ _ | exact Has.new3 _ _ _ _ _ | exact Has.nx1 _ _ _ | exact Has.nx2 _ _ _ _ | exact Has.nx3 _ _ _ _ _ | exact Has.ny1 _ _ _ _ | exact Has.ny2 _ _ _ _ _ | exact Has.ny3 _ _ _ _ _ _ | exact Has.nz1 _ _ _ _ _ | exact Has.nz2 _ _ _ _ _ _ | exact Has.nz3 _ _ _ _ _ _ _ | refine At.fill1 ?_ _ | refine At.fill2 ?_ _ _ | refine At.fill3 ?_ _ _ _ | refine At.swap ?_ (by first | omega | (simp; omega)) _ _ | refine At.alloc ?_ _ | refine At.drew ?_ | refine At.skip ?_ (by first | omega | (simp; omega)) _ _ | refine At.below (by assumption) ?_ | refine Has.alloc ?_ _ | refine Has.drew ?_ | refine Has.set ?_ _ _ _ | refine Has.below (by assumption) ?_)); done)); replace HM : Hid (Sg w5 m0 (.slice ad0 L0 cap0) mi) := hidb (Sg.below (by first | exact HM.out | exact HM.out.drew | exact HM.out.alloc _ | exact HM.out.drew.alloc _) hB5))
        | (go_at_call 31; refine (mulS' (x := ?kx) (y := ?ky) ?kh ?kk ?kl ?km).mono ?_; (case kh => ((with_reducible repeat' (first | assumption | refine Sg.drew ?_ | refine Sg.alloc ?_ _ | refine Sg.step (by assumption) ?_)); done)); (case kk => ((with_reducible repeat' (first | assumption | refine Sg.drew ?_ | refine Sg.alloc ?_ _ | refine Sg.step (by assumption) ?_)); done)); (case kl => with_reducible assumption); (case km => with_reducible assumption); rintro e w5 ⟨m5, v5, rfl, h5, hB5, hs5⟩; (with_reducible first | replace NA := At.below hB5 NA | have NA := At.below hB5 (At.new2d' _ _ _ _) | have NA := At.below hB5 (At.drew (At.new2 _ _ _ _)) | have NA := At.below hB5 (At.new2 _ _ _ _) | skip); (try simp at hs5); have hz5 : w3.heap.size < w5.heap.size := (by omega); replace HC : Gr w w5 := Gr.step (by ((with_reducible repeat' (first | assumption | refine Gr.drew ?_ | refine Gr.alloc ?_ _ | refine Gr.set ?_ (by first | omega | (simp; omega)) _ _ | exact Gr.refl _)); done)) hB5; replace FA : At w5 w.heap.size [.int .i64 ax, .int .i64 ay, .int .i64 aq] := At.below hB5 (by ((with_reducible repeat' (first | assumption | exact At.new1 _ _ _ | exact At.new2 _ _ _ _ | exact At.new3 _ _ _ _ _ | exact At.nx1 _ _ _ | exact At.nx2 _ _ _ _ | exact At.nx3 _ _ _ _ _ | exact At.ny1 _ _ _ _ | exact At.ny2 _ _ _ _ _ | exact At.ny3 _ _ _ _ _ _ | exact At.nz1 _ _ _ _ _ | exact At.nz2 _ _ _ _ _ _ | exact At.nz3 _ _ _ _ _ _ _ | exact Has.new1 _ _ _ | exact Has.new2 _ _ _ _ | exact Has.new3 _ _ _ _ _ | exact Has.nx1 _ _ _ | exact Has.nx2 _ _ _ _ | exact Has.nx3 _ _ _ _ _ | exact Has.ny1 _ _ _ _ | exact Has.ny2 _ _ _ _ _ | exact Has.ny3 _ _ _ _ _ _ | exact Has.nz1 _ _ _ _ _ | exact Has.nz2 _ _ _ _ _ _ | exact Has.nz3 _ _ _ _ _ _ _ | refine At.fill1 ?_ _ | refine At.fill2 ?_ _ _ | refine At.fill3 ?_ _ _ _ | refine At.swap ?_ (by first | omega | (simp; omega)) _ _ | refine At.alloc ?_ _ | refine At.drew ?_ | refine At.skip ?_ (by first | omega | (simp; omega)) _ _ | refine At.below (by assumption) ?_ | refine Has.alloc ?_ _ | refine Has.drew ?_ | refine Has.set ?_ _ _ _ | refine Has.below (by assumption) ?_)); done)); replace FB : At w5 (w.heap.size + 1) [.int .i64 bx, .int .i64 b_y, .int .i64 bq] := At.below hB5 (by ((with_reducible repeat' (first | assumption | exact At.new1 _ _ _ | exact At.new2 _ _ _ _ | exact At.new3 _ _ _ _ _ | exact At.nx1 _ _ _ | exact At.nx2 _ _ _ _ | exact At.nx3 _ _ _ _ _ | exact At.ny1 _ _ _ _ | exact At.ny2 _ _ _ _ _ | exact At.ny3 _ _ _ _ _ _ | exact At.nz1 _ _ _ _ _ | exact At.nz2 _ _ _ _ _ _ | exact At.nz3 _ _ _ _ _ _ _ | exact Has.new1 _ _ _ | exact Has.new2 _ _ _ _ | exact Has.new3 _ _ _ _ _ | exact Has.nx1 _ _ _ | exact Has.nx2 _ _ _ _ | exact Has.nx3 _ _ _ _ _ | exact Has.ny1 _ _ _ _ | exact Has.ny2 _ _ _ _ _ | exact Has.ny3 _ _ _ _ _ _ | exact Has.nz1 _ _ _ _ _ | exact Has.nz2 _ _ _ _ _ _ | exact Has.nz3 _ _ _ _ _ _ _ | refine At.fill1 ?_ _ | refine At.fill2 ?_ _ _ | refine At.fill3 ?_ _ _ _ | refine At.swap ?_ (by first | omega | (simp; omega)) _ _ | refine At.alloc ?_ _ | refine At.drew ?_ | refine At.skip ?_ (by first | omega | (simp; omega)) _ _ | refine At.below (by assumption) ?_ | refine Has.alloc ?_ _ | refine Has.drew ?_ | refine Has.set ?_ _ _ _ | refine Has.below (by assumption) ?_)); done)); replace FR : At w5 (w.heap.size + 1 + 1) [.int .i64 0, .int .i64 0] := At.below hB5 (by ((with_reducible repeat' (first | assumption | exact At.new1 _ _ _ | exact At.new2 _ _ _ _ | exact At.new3 _ _ _ _ _ | exact At.nx1 _ _ _ | exact At.nx2 _ _ _ _ | exact At.nx3 _ _ _ _ _ | exact At.ny1 _ _ _ _ | exact At.ny2 _ _ _ _ _ | exact At.ny3 _ _ _ _ _ _ | exact At.nz1 _ _ _ _ _ | exact At.nz2 _ _ _ _ _ _ | exact At.nz3 _ _ _ _ _ _ _ | exact Has.new1 _ _ _ | exact Has.new2 _ _ _ _ | exact Has.new3 _ _ _ _ _ | exact Has.nx1 _ _ _ | exact Has.nx2 _ _ _ _ | exact Has.nx3 _ _ _ _ _ | exact Has.ny1 _ _ _ _ | exact Has.ny2 _ _ _ _ _ | exact Has.ny3 _ _ _ _ _ _ | exact Has.nz1 _ _ _ _ _ | exact Has.nz2 _ _ _ _ _ _ | exact Has.nz3 _ _ _ _ _ _ _ | refine At.fill1 ?_ _ | refine At.fill2 ?_ _ _ | refine At.fill3 ?_ _ _ _ | refine At.swap ?_ (by first | omega | (simp; omega)) _ _ | refine At.alloc ?_ _ | refine At.drew ?_ | refine At.skip ?_ (by first | omega | (simp; omega)) _ _ | refine At.below (by assumption) ?_ | refine Has.alloc ?_ _ | refine Has.drew ?_ | refine Has.set ?_ _ _ _ | refine Has.below (by assumption) ?_)); done)); replace FN : At w5 (w.heap.size + 1 + 1 + 1) [.int .i64 0, .int .i64 1] := At.below hB5 (by ((with_reducible repeat' (first | assumption | exact At.new1 _ _ _ | exact At.new2 _ _ _ _ | exact At.new3 _ _ _ _ _ | exact At.nx1 _ _ _ | exact At.nx2 _ _ _ _ | exact At.nx3 _ _ _ _ _ | exact At.ny1 _ _ _ _ | exact At.ny2 _ _ _ _ _ | exact At.ny3 _ _ _ _ _ _ | exact At.nz1 _ _ _ _ _ | exact At.nz2 _ _ _ _ _ _ | exact At.nz3 _ _ _ _ _ _ _ | exact Has.new1 _ _ _ | exact Has.new2 _ _ _ _ | exact Has.new3 _ _ _ _ _ | exact Has.nx1 _ _ _ | exact Has.nx2 _ _ _ _ | exact Has.nx3 _ _ _ _ _ | exact Has.ny1 _ _ _ _ | exact Has.ny2 _ _ _ _ _ | exact Has.ny3 _ _ _ _ _ _ | exact Has.nz1 _ _ _ _ _ | exact Has.nz2 _ _ _ _ _ _ | exact Has.nz3 _ _ _ _ _ _ _ | refine At.fill1 ?_ _ | refine At.fill2 ?_ _ _ | refine At.fill3 ?_ _ _ _ | refine At.swap ?_ (by first | omega | (simp; omega)) _ _ | refine At.alloc ?_ _ | refine At.drew ?_ | refine At.skip ?_ (by first | omega | (simp; omega)) _ _ | refine At.below (by assumption) ?_ | refine Has.alloc ?_ _ | refine Has.drew ?_ | refine Has.set ?_ _ _ _ | refine Has.below (by assumption) ?_)); done)); replace M1 : At w5 M [.bool m0, .slice ad0 L0 cap0] := At.below hB5 (by ((with_reducible repeat' (first | assumption | exact At.new1 _ _ _ | exact At.new2 _ _ _ _ | exact At.new3 _ _ _ _ _ | exact At.nx1 _ _ _ | exact At.nx2 _ _ _ _ | exact At.nx3 _ _ _ _ _ | exact At.ny1 _ _ _ _ | exact At.ny2 _ _ _ _ _ | exact At.ny3 _ _ _ _ _ _ | exact At.nz1 _ _ _ _ _ | exact At.nz2 _ _ _ _ _ _ | exact At.nz3 _ _ _ _ _ _ _ | exact Has.new1 _ _ _ | exact Has.new2 _ _ _ _ | exact Has.new3 _ _ _ _ _ | exact Has.nx1 _ _ _ | exact Has.nx2 _ _ _ _ | exact Has.nx3 _ _ _ _ _ | exact Has.ny1 _ _ _ _ | exact Has.ny2 _ _ _ _ _ | exact Has.ny3 _ _ _ _ _ _ | exact Has.nz1 _ _ _ _ _ | exact Has.nz2 _ _ _ _ _ _ | exact Has.nz3 _ _ _ _ _ _ _ | refine At.fill1 ?_ _ | refine At.fill2 ?_ _ _ | refine At.fill3 ?_ _ _ _ | refine At.swap ?_ (by first | omega | (simp; omega)) _ _ | refine At.alloc ?_ _ | refine At.drew ?_ | refine At.skip ?_ (by first | omega | (simp; omega)) _ _ | refine At.below (by assumption) ?_ | refine Has.alloc ?_ _ | refine Has.drew ?_ | refine Has.set ?_ _ _ _ | refine Has.below (by assumption) ?_)); done)); replace HM : Hid (Sg w5 m0 (.slice ad0 L0 cap0) mi) := hidb (Sg.below (by first | exact HM.out | exact HM.out.drew | exact HM.out.alloc _ | exact HM.out.drew.alloc _) hB5); obtain ⟨ad5, cap5, he5⟩ := h5.form'; rw [he5] at h5 ⊢; have HT5 := hidb h5; clear h5 he5; (first | (obtain ⟨n0, n1⟩ := NA.c2; obtain ⟨n2, n3⟩ := NA.f2; have NH := NA.has (n := 2) rfl) | skip))))
    all_goals
      go_wp2_with fail
      go_meet
      refine ⟨_, m5, .slice ad5 (dn (4 * aq * d).natAbs).length cap5, rfl, ?_, ?_, ⟨?_, ?_, ?_, ?_⟩, ?_, ?_, ?_, ?_⟩
    all_goals first
      | ((with_reducible repeat' (first | assumption | exact At.new1 _ _ _ | exact At.new2 _ _ _ _ | exact At.new3 _ _ _ _ _ | exact At.new5 _ _ _ _ _ _ _ | exact At.nx1 _ _ _ | exact At.nx2 _ _ _ _ | exact At.nx3 _ _ _ _ _ | exact At.ny1 _ _ _ _ | exact At.ny2 _ _ _ _ _ | exact At.ny3 _ _ _ _ _ _ | exact At.nz1 _ _ _ _ _ | exact At.nz2 _ _ _ _ _ _ | exact At.nz3 _ _ _ _ _ _ _ | exact Has.new1 _ _ _ | exact Has.new2 _ _ _ _ | exact Has.new3 _ _ _ _ _ | exact Has.nx1 _ _ _ | exact Has.nx2 _ _ _ _ | exact Has.nx3 _ _ _ _ _ | exact Has.ny1 _ _ _ _ | exact Has.ny2 _ _ _ _ _ | exact Has.ny3 _ _ _ _ _ _ | exact Has.nz1 _ _ _ _ _ | exact Has.nz2 _ _ _ _ _ _ | exact Has.nz3 _ _ _ _ _ _ _ | refine At.fill4 ?_ _ _ _ _ | refine At.fill1 ?_ _ | refine At.fill2 ?_ _ _ | refine At.fill3 ?_ _ _ _ | refine At.swap ?_ (by first | omega | (simp; omega)) _ _ | refine At.alloc ?_ _ | refine At.drew ?_ | refine At.drewN ?_ _ | refine At.skip ?_ (by first | omega | (simp; omega)) _ _ | refine At.below (by assumption) ?_ | exact At.has (by assumption) rfl | refine Has.alloc ?_ _ | refine Has.drew ?_ | refine Has.drewN ?_ _ | refine Has.set ?_ _ _ _ | refine Has.below (by assumption) ?_)); done)
      | ((with_reducible repeat' (first | assumption | refine Gr.drew ?_ | refine Gr.alloc ?_ _ | refine Gr.set ?_ (by first | omega | (simp; omega)) _ _ | exact Gr.refl _)); done)
      | exact HT5.out.alloc _
      | exact ⟨HT5.out.1.setS2 NA _, HT5.out.2⟩
      | exact HM.out.alloc _
      | exact ⟨HM.out.1.setS2 NA _, HM.out.2⟩
      | omega
      | (simp; omega)
  case rest =>
    obtain ⟨B, o, t, rfl, BA, HB4, VV, M1, HM, HC, hMB⟩ := hcut
    obtain ⟨adt, capt, hft⟩ := HB4.out.form'
    subst hft
    obtain ⟨Lt, hLt⟩ : ∃ Lt, Lt = (dn (4 * aq * d).natAbs).length := ⟨_, rfl⟩
    rw [← hLt] at BA HB4
    clear hLt
    obtain ⟨p0, p1⟩ := BA.c2
    obtain ⟨q0, q1⟩ := M1.c2
    obtain ⟨j0, j1⟩ := BA.f2
    go_upto_region 13 with fail
    go_cut [12] from 73 to 77 (fun s12 wx => s12 = .pointer (some ⟨B, 0, none⟩) ∧ ∃ m6 ad6 cap6, At wx B [.bool m6, .slice ad6 (dn (4 * aq * d - mi * mi).natAbs).length cap6] ∧ Hid (Sg wx m6 (.slice ad6 (dn (4 * aq * d - mi * mi).natAbs).length cap6) (4 * aq * d - mi * mi)) ∧ CW wx w.heap.size ⟨ax, ay, aq⟩ ⟨bx, b_y, bq⟩ ∧ Gr w wx)
    case first =>
      go_region_law ((first
        | (go_simp; go_at_call 31; refine (mulS' HM.out.drew HM.out.drew b2 b2).mono ?_; rintro e w5 ⟨m5, v5, rfl, h5, hB5, hs5⟩; replace hB5 := undr hB5; have H5 := hidb h5; replace HC : Gr w w5 := Gr.step HC hB5; replace VV := VV.below hB5; replace BA := At.below hB5 BA; replace M1 := At.below hB5 M1; replace HB4 := hidb (HB4.out.below hB5); clear h5 hB5 hs5 p0 p1 q0 q1 j0 j1; obtain ⟨p0, p1⟩ := BA.c2; obtain ⟨q0, q1⟩ := M1.c2; obtain ⟨j0, j1⟩ := BA.f2)
        | (go_simp; go_at_call 32; refine (less_any HB4.out H5.out b5 b6).mono ?_; rintro e w6 ⟨m6, v6, rfl, h6, hB6, hs6⟩; replace HC : Gr w w6 := Gr.step HC hB6; replace VV := VV.below hB6; replace BA := At.below hB6 BA; obtain ⟨ad6, cap6, he6⟩ := h6.form'; rw [he6] at h6 ⊢; have H6 := hidb h6; clear h6 hB6 hs6 he6 p0 p1 q0 q1 j0 j1; obtain ⟨p0, p1⟩ := BA.c2; obtain ⟨j0, j1⟩ := BA.f2)))
      all_goals
        clear p0 p1 j0 j1
        go_wp2_with fail
        go_meet
        refine ⟨rfl, m6, ad6, cap6, (BA.put 0 _).put 1 _, ⟨H6.out.1.setS2 BA _, H6.out.2⟩, ⟨(VV.fa.skip (by omega) _ _).skip (by omega) _ _, (VV.fb.skip (by omega) _ _).skip (by omega) _ _, (VV.fr.skip (by omega) _ _).skip (by omega) _ _, (VV.fn.skip (by omega) _ _).skip (by omega) _ _⟩, (HC.set (by omega) _ _).set (by omega) _ _⟩
    case rest =>
      clear BA HB4 VV M1 HM HC p0 p1 q0 q1 j0 j1
      obtain ⟨rfl, m6, ad6, cap6, BA, H6, VV, HC⟩ := hcut
      have hM6 := H6.out.2
      obtain ⟨p0, p1⟩ := BA.c2
      have hz6 := len_zero (4 * aq * d - mi * mi)
      obtain ⟨z, hz⟩ : ∃ z, z = 4 * aq * d - mi * mi := ⟨_, rfl⟩
      rw [← hz] at hM6 hz6 BA H6 p1 HPN b7
      have hZ := hidb hz
      clear hz b2 b3 b4 b5 b6 b8
      obtain ⟨L6, hL6⟩ : ∃ L6, L6 = (dn z.natAbs).length := ⟨_, rfl⟩
      rw [← hL6] at hz6 BA H6 p1
      clear hL6
      have hne : ¬ w.heap.size + 1 + 1 = w.heap.size + 1 + 1 + 1 := by omega
      have hge : w.heap.size ≤ w.heap.size + 1 + 1 := by omega
      have HOd := hidb (fun w => ofS' d k1 n1 w)
      have HRd := hidb (fun w m n u v (h : Sg w m u z) (k : Sg w n v d) => reduced_all (br_lid b7) (br_lid b1) d0 h k)
      clear b1 b7
      rcases HPN.out with ⟨g0, g1, g2, g3⟩ | ⟨g0, g1, g2, g3⟩ | ⟨g0, g4, g1, g2, g3⟩ | ⟨g0, g4, g1, g2, g3⟩
      · rw [decide_eq_true g0] at hM6
        subst hM6
        obtain ⟨z0, z1⟩ := VV.fr.c2
        obtain ⟨f0, f1⟩ := VV.fr.f2
        have K1 := hidb g1
        have K2 := hidb g2
        have K3 := hidb g3
        clear g1 g2 g3 HPN
        go_upto_region 15 with fail
        clear p0 p1
        go_region_held (fun w' => w'.cell? ⟨w.heap.size + 1 + 1 + 1, 0, none⟩ = some (.int .i64 0) ∧ w'.cell? ⟨w.heap.size + 1 + 1 + 1, 1, none⟩ = some (.int .i64 1))
          (first | (with_reducible exact VV.fn.c2) | exact VV.fn.c2 | exact ((VV.fn.skip hne _ _).skip hne _ _).c2)
          (fail)
        all_goals
          go_wp2
          obtain ⟨r0, r1⟩ := (At.fill2 (VV.fr.has rfl) (.int .i64 0) (.int .i64 1)).drew.c2
          exact bodyPost_ret (v := .tuple #[.int .i64 0, .agg #[.int .i64 0, .int .i64 1], .int .i64 0]) (by simp [results, Tryd.results21, go_sem, r0, r1]) rfl ⟨by rw [K1.out, K2.out, K3.out], ((HC.set hge _ _).set hge _ _).drew⟩
      · rw [decide_eq_false (by omega)] at hM6
        subst hM6
        rw [decide_eq_true g0] at hz6
        obtain ⟨z0, z1⟩ := VV.fr.c2
        obtain ⟨f0, f1⟩ := VV.fr.f2
        have hL : L6 = 0 := by simpa using hz6
        subst hL
        clear g0 hz6
        have K1 := hidb g1
        have K2 := hidb g2
        have K3 := hidb g3
        clear g1 g2 g3 HPN
        go_upto_region 17 with fail
        clear p0 p1
        go_region_held (fun w' => w'.cell? ⟨w.heap.size + 1 + 1 + 1, 0, none⟩ = some (.int .i64 0) ∧ w'.cell? ⟨w.heap.size + 1 + 1 + 1, 1, none⟩ = some (.int .i64 1))
          (first | (with_reducible exact VV.fn.c2) | exact VV.fn.c2 | exact ((VV.fn.skip hne _ _).skip hne _ _).c2)
          (fail)
        all_goals
          go_wp2
          obtain ⟨r0, r1⟩ := (At.fill2 (VV.fr.has rfl) (.int .i64 0) (.int .i64 1)).drew.c2
          exact bodyPost_ret (v := .tuple #[.int .i64 1, .agg #[.int .i64 0, .int .i64 1], .int .i64 0]) (by simp [results, Tryd.results21, go_sem, r0, r1]) rfl ⟨by rw [K1.out, K2.out, K3.out], ((HC.set hge _ _).set hge _ _).drew⟩
      · rw [decide_eq_false (by omega)] at hM6
        subst hM6
        rw [decide_eq_false (by omega)] at hz6
        clear g0
        have K4 := hidb g4
        clear g4
        obtain ⟨FA, FB, FR, FN⟩ := VV
        have hBl : w.heap.size + 1 + 1 < B := by omega
        go_upto_region 18 with fail
        go_cut [13, 14] from 86 to 92 (fun s13 s14 wx => ∃ F, s13 = .pointer (some ⟨F, 0, none⟩) ∧ s14 = .bool (qf z d) ∧ At wx F [.int .i64 (qx z d), .int .i64 (qy z d)] ∧ At wx (w.heap.size + 1 + 1) [.int .i64 0, .int .i64 0] ∧ Gr w wx ∧ w.heap.size + 1 + 1 < F)
        case first =>
          have ltw := FR.lt
          have lbw := BA.lt
          have hsz : w.heap.size ≤ wc.heap.size := HC.out.size
          have G6 := Gr.refl wc
          clear p0 p1 FA FB FN
          go_region_held (fun w' => w'.cell? ⟨B, 0, none⟩ = some (.bool false) ∧ w'.cell? ⟨B, 1, none⟩ = some (.slice ad6 L6 cap6))
            ((refine At.c2 (B := B) (a := .bool false) (b := .slice ad6 L6 cap6) ?_; ((with_reducible repeat' (first | assumption | exact At.new1 _ _ _ | exact At.new2 _ _ _ _ | exact At.new3 _ _ _ _ _ | exact At.nx1 _ _ _ | exact At.nx2 _ _ _ _ | exact At.nx3 _ _ _ _ _ | exact At.ny1 _ _ _ _ | exact At.ny2 _ _ _ _ _ | exact At.ny3 _ _ _ _ _ _ | exact At.nz1 _ _ _ _ _ | exact At.nz2 _ _ _ _ _ _ | exact At.nz3 _ _ _ _ _ _ _ | exact Has.new1 _ _ _ | exact Has.new2 _ _ _ _ | exact Has.new3 _ _ _ _ _ | exact Has.nx1 _ _ _ | exact Has.nx2 _ _ _ _ | exact Has.nx3 _ _ _ _ _ | exact Has.ny1 _ _ _ _ | exact Has.ny2 _ _ _ _ _ | exact Has.ny3 _ _ _ _ _ _ | exact Has.nz1 _ _ _ _ _ | exact Has.nz2 _ _ _ _ _ _ | exact Has.nz3 _ _ _ _ _ _ _ | refine At.fill1 ?_ _ | refine At.fill2 ?_ _ _ | refine At.fill3 ?_ _ _ _ | refine At.swap ?_ (by first | omega | (simp; omega)) _ _ | refine At.alloc ?_ _ | refine At.drew ?_ | refine At.skip ?_ (by first | omega | (simp; omega)) _ _ | refine At.below (by assumption) ?_ | refine Has.alloc ?_ _ | refine Has.drew ?_ | refine Has.set ?_ _ _ _ | refine Has.below (by assumption) ?_)); done)))
            ((first
              | (go_at_call 29; refine (HOd.out _).mono ?_; rintro e w8 ⟨m8, v8, rfl, h8, hB8, hs8⟩; (with_reducible first | replace NA := At.below hB8 NA | have NA := At.below hB8 (At.new2d' _ _ _ _) | have NA := At.below hB8 (At.drew (At.new2 _ _ _ _)) | have NA := At.below hB8 (At.new2 _ _ _ _) | skip); have N8 := hidb h8; clear h8; (try simp at hs8); have hz8 : wc.heap.size < w8.heap.size := (by omega); replace HC : Gr w w8 := Gr.step (by ((with_reducible repeat' (first | assumption | refine Gr.drew ?_ | refine Gr.alloc ?_ _ | refine Gr.set ?_ (by first | omega | (simp; omega)) _ _ | exact Gr.refl _)); done)) hB8; replace G6 : Gr wc w8 := Gr.step (by ((with_reducible repeat' (first | assumption | refine Gr.drew ?_ | refine Gr.alloc ?_ _ | refine Gr.set ?_ (by first | omega | (simp; omega)) _ _ | exact Gr.refl _)); done)) hB8; replace FR : At w8 (w.heap.size + 1 + 1) [.int .i64 0, .int .i64 0] := At.below hB8 (by ((with_reducible repeat' (first | assumption | exact At.new1 _ _ _ | exact At.new2 _ _ _ _ | exact At.new3 _ _ _ _ _ | exact At.nx1 _ _ _ | exact At.nx2 _ _ _ _ | exact At.nx3 _ _ _ _ _ | exact At.ny1 _ _ _ _ | exact At.ny2 _ _ _ _ _ | exact At.ny3 _ _ _ _ _ _ | exact At.nz1 _ _ _ _ _ | exact At.nz2 _ _ _ _ _ _ | exact At.nz3 _ _ _ _ _ _ _ | exact Has.new1 _ _ _ | exact Has.new2 _ _ _ _ | exact Has.new3 _ _ _ _ _ | exact Has.nx1 _ _ _ | exact Has.nx2 _ _ _ _ | exact Has.nx3 _ _ _ _ _ | exact Has.ny1 _ _ _ _ | exact Has.ny2 _ _ _ _ _ | exact Has.ny3 _ _ _ _ _ _ | exact Has.nz1 _ _ _ _ _ | exact Has.nz2 _ _ _ _ _ _ | exact Has.nz3 _ _ _ _ _ _ _ | refine At.fill1 ?_ _ | refine At.fill2 ?_ _ _ | refine At.fill3 ?_ _ _ _ | refine At.swap ?_ (by first | omega | (simp; omega)) _ _ | refine At.alloc ?_ _ | refine At.drew ?_ | refine At.skip ?_ (by first | omega | (simp; omega)) _ _ | refine At.below (by assumption) ?_ | refine Has.alloc ?_ _ | refine Has.drew ?_ | refine Has.set ?_ _ _ _ | refine Has.below (by assumption) ?_)); done)); replace BA : At w8 B [.bool false, .slice ad6 L6 cap6] := At.below hB8 (by ((with_reducible repeat' (first | assumption | exact At.new1 _ _ _ | exact At.new2 _ _ _ _ | exact At.new3 _ _ _ _ _ | exact At.nx1 _ _ _ | exact At.nx2 _ _ _ _ | exact At.nx3 _ _ _ _ _ | exact At.ny1 _ _ _ _ | exact At.ny2 _ _ _ _ _ | exact At.ny3 _ _ _ _ _ _ | exact At.nz1 _ _ _ _ _ | exact At.nz2 _ _ _ _ _ _ | exact At.nz3 _ _ _ _ _ _ _ | exact Has.new1 _ _ _ | exact Has.new2 _ _ _ _ | exact Has.new3 _ _ _ _ _ | exact Has.nx1 _ _ _ | exact Has.nx2 _ _ _ _ | exact Has.nx3 _ _ _ _ _ | exact Has.ny1 _ _ _ _ | exact Has.ny2 _ _ _ _ _ | exact Has.ny3 _ _ _ _ _ _ | exact Has.nz1 _ _ _ _ _ | exact Has.nz2 _ _ _ _ _ _ | exact Has.nz3 _ _ _ _ _ _ _ | refine At.fill1 ?_ _ | refine At.fill2 ?_ _ _ | refine At.fill3 ?_ _ _ _ | refine At.swap ?_ (by first | omega | (simp; omega)) _ _ | refine At.alloc ?_ _ | refine At.drew ?_ | refine At.skip ?_ (by first | omega | (simp; omega)) _ _ | refine At.below (by assumption) ?_ | refine Has.alloc ?_ _ | refine Has.drew ?_ | refine Has.set ?_ _ _ _ | refine Has.below (by assumption) ?_)); done)))
              | (go_at_call 13; refine (HRd.out _ _ _ _ _ (H6.out.below (Gr.out (by ((with_reducible repeat' (first | assumption | refine Gr.drew ?_ | refine Gr.alloc ?_ _ | refine Gr.set ?_ (by first | omega | (simp; omega)) _ _ | exact Gr.refl _)); done)))) (by first | exact N8.out | exact N8.out.alloc _)).mono ?_; rintro e w9 ⟨rfl, hB9⟩; (with_reducible first | replace NA := At.below hB9 NA | have NA := At.below hB9 (At.new2d' _ _ _ _) | have NA := At.below hB9 (At.drew (At.new2 _ _ _ _)) | have NA := At.below hB9 (At.new2 _ _ _ _) | skip); have hz9 : w8.heap.size ≤ w9.heap.size := (by have := hB9.size; (try simp at this); omega); replace HC : Gr w w9 := Gr.step (by ((with_reducible repeat' (first | assumption | refine Gr.drew ?_ | refine Gr.alloc ?_ _ | refine Gr.set ?_ (by first | omega | (simp; omega)) _ _ | exact Gr.refl _)); done)) hB9; replace FR : At w9 (w.heap.size + 1 + 1) [.int .i64 0, .int .i64 0] := At.below hB9 (by ((with_reducible repeat' (first | assumption | exact At.new1 _ _ _ | exact At.new2 _ _ _ _ | exact At.new3 _ _ _ _ _ | exact At.nx1 _ _ _ | exact At.nx2 _ _ _ _ | exact At.nx3 _ _ _ _ _ | exact At.ny1 _ _ _ _ | exact At.ny2 _ _ _ _ _ | exact At.ny3 _ _ _ _ _ _ | exact At.nz1 _ _ _ _ _ | exact At.nz2 _ _ _ _ _ _ | exact At.nz3 _ _ _ _ _ _ _ | exact Has.new1 _ _ _ | exact Has.new2 _ _ _ _ | exact Has.new3 _ _ _ _ _ | exact Has.nx1 _ _ _ | exact Has.nx2 _ _ _ _ | exact Has.nx3 _ _ _ _ _ | exact Has.ny1 _ _ _ _ | exact Has.ny2 _ _ _ _ _ | exact Has.ny3 _ _ _ _ _ _ | exact Has.nz1 _ _ _ _ _ | exact Has.nz2 _ _ _ _ _ _ | exact Has.nz3 _ _ _ _ _ _ _ | refine At.fill1 ?_ _ | refine At.fill2 ?_ _ _ | refine At.fill3 ?_ _ _ _ | refine At.swap ?_ (by first | omega | (simp; omega)) _ _ | refine At.alloc ?_ _ | refine At.drew ?_ | refine At.skip ?_ (by first | omega | (simp; omega)) _ _ | refine At.below (by assumption) ?_ | refine Has.alloc ?_ _ | refine Has.drew ?_ | refine Has.set ?_ _ _ _ | refine Has.below (by assumption) ?_)); done)); replace BA : At w9 B [.bool false, .slice ad6 L6 cap6] := At.below hB9 (by ((with_reducible repeat' (first | assumption | exact At.new1 _ _ _ | exact At.new2 _ _ _ _ | exact At.new3 _ _ _ _ _ | exact At.nx1 _ _ _ | exact At.nx2 _ _ _ _ | exact At.nx3 _ _ _ _ _ | exact At.ny1 _ _ _ _ | exact At.ny2 _ _ _ _ _ | exact At.ny3 _ _ _ _ _ _ | exact At.nz1 _ _ _ _ _ | exact At.nz2 _ _ _ _ _ _ | exact At.nz3 _ _ _ _ _ _ _ | exact Has.new1 _ _ _ | exact Has.new2 _ _ _ _ | exact Has.new3 _ _ _ _ _ | exact Has.nx1 _ _ _ | exact Has.nx2 _ _ _ _ | exact Has.nx3 _ _ _ _ _ | exact Has.ny1 _ _ _ _ | exact Has.ny2 _ _ _ _ _ | exact Has.ny3 _ _ _ _ _ _ | exact Has.nz1 _ _ _ _ _ | exact Has.nz2 _ _ _ _ _ _ | exact Has.nz3 _ _ _ _ _ _ _ | refine At.fill1 ?_ _ | refine At.fill2 ?_ _ _ | refine At.fill3 ?_ _ _ _ | refine At.swap ?_ (by first | omega | (simp; omega)) _ _ | refine At.alloc ?_ _ | refine At.drew ?_ | refine At.skip ?_ (by first | omega | (simp; omega)) _ _ | refine At.below (by assumption) ?_ | refine Has.alloc ?_ _ | refine Has.drew ?_ | refine Has.set ?_ _ _ _ | refine Has.below (by assumption) ?_)); done)); (first | (obtain ⟨n0, n1⟩ := NA.c2; obtain ⟨n2, n3⟩ := NA.f2; have NH := NA.has (n := 2) rfl) | skip))))
          all_goals
            go_wp2_with fail
            go_meet
            refine ⟨_, rfl, rfl, ?_, ?_, ?_, ?_⟩
          all_goals first | ((with_reducible repeat' (first | assumption | exact At.new1 _ _ _ | exact At.new2 _ _ _ _ | exact At.new3 _ _ _ _ _ | exact At.new5 _ _ _ _ _ _ _ | exact At.nx1 _ _ _ | exact At.nx2 _ _ _ _ | exact At.nx3 _ _ _ _ _ | exact At.ny1 _ _ _ _ | exact At.ny2 _ _ _ _ _ | exact At.ny3 _ _ _ _ _ _ | exact At.nz1 _ _ _ _ _ | exact At.nz2 _ _ _ _ _ _ | exact At.nz3 _ _ _ _ _ _ _ | exact Has.new1 _ _ _ | exact Has.new2 _ _ _ _ | exact Has.new3 _ _ _ _ _ | exact Has.nx1 _ _ _ | exact Has.nx2 _ _ _ _ | exact Has.nx3 _ _ _ _ _ | exact Has.ny1 _ _ _ _ | exact Has.ny2 _ _ _ _ _ | exact Has.ny3 _ _ _ _ _ _ | exact Has.nz1 _ _ _ _ _ | exact Has.nz2 _ _ _ _ _ _ | exact Has.nz3 _ _ _ _ _ _ _ | refine At.fill4 ?_ _ _ _ _ | refine At.fill1 ?_ _ | refine At.fill2 ?_ _ _ | refine At.fill3 ?_ _ _ _ | refine At.swap ?_ (by first | omega | (simp; omega)) _ _ | refine At.alloc ?_ _ | refine At.drew ?_ | refine At.drewN ?_ _ | refine At.skip ?_ (by first | omega | (simp; omega)) _ _ | refine At.below (by assumption) ?_ | exact At.has (by assumption) rfl | refine Has.alloc ?_ _ | refine Has.drew ?_ | refine Has.drewN ?_ _ | refine Has.set ?_ _ _ _ | refine Has.below (by assumption) ?_)); done) | ((with_reducible repeat' (first | assumption | refine Gr.drew ?_ | refine Gr.alloc ?_ _ | refine Gr.set ?_ (by first | omega | (simp; omega)) _ _ | exact Gr.refl _)); done) | omega | (simp; omega)
        case rest =>
          clear FR HC FA FB FN p0 p1 BA H6
          obtain ⟨F, rfl, rfl, FF1, FR, HC, hFl⟩ := hcut
          obtain ⟨z0, z1⟩ := FR.c2
          obtain ⟨f0, f1⟩ := FR.f2
          obtain ⟨x0, x1⟩ := FF1.c2
          have hnf : ¬ w.heap.size + 1 + 1 = F := by omega
          rw [K4.out]
          have K1 := hidb g1
          have K2 := hidb g2
          have K3 := hidb g3
          clear g1 g2 g3 HPN
          generalize qx z d = X at *
          generalize qy z d = Y at *
          go_upto_region 21 with fail
          go_region_held (fun w' => w'.cell? ⟨F, 0, none⟩ = some (.int .i64 X) ∧ w'.cell? ⟨F, 1, none⟩ = some (.int .i64 Y))
            (first | (with_reducible exact ⟨x0, x1⟩) | exact FF1.c2 | exact ((FF1.skip hnf _ _).skip hnf _ _).c2)
            (fail)
          all_goals
            go_wp2
            obtain ⟨r0, r1⟩ := (At.fill2 (FR.has rfl) (.int .i64 X) (.int .i64 Y)).drew.c2
            exact bodyPost_ret (v := .tuple #[.int .i64 2, .agg #[.int .i64 X, .int .i64 Y], .int .i64 0]) (by simp [results, Tryd.results21, go_sem, r0, r1]) rfl ⟨by rw [K1.out, K2.out, K3.out], ((HC.set hge _ _).set hge _ _).drew⟩
      · rw [decide_eq_false (by omega)] at hM6
        subst hM6
        rw [decide_eq_false (by omega)] at hz6
        clear g0
        have K4 := hidb g4
        clear g4
        obtain ⟨FA, FB, FR, FN⟩ := VV
        have hBl : w.heap.size + 1 + 1 < B := by omega
        go_upto_region 18 with fail
        go_cut [13, 14] from 86 to 92 (fun s13 s14 wx => ∃ F, s13 = .pointer (some ⟨F, 0, none⟩) ∧ s14 = .bool (qf z d) ∧ At wx F [.int .i64 (qx z d), .int .i64 (qy z d)] ∧ At wx (w.heap.size + 1 + 1) [.int .i64 0, .int .i64 0] ∧ Gr w wx ∧ w.heap.size + 1 + 1 < F)
        case first =>
          have ltw := FR.lt
          have lbw := BA.lt
          have hsz : w.heap.size ≤ wc.heap.size := HC.out.size
          have G6 := Gr.refl wc
          clear p0 p1 FA FB FN
          go_region_held (fun w' => w'.cell? ⟨B, 0, none⟩ = some (.bool false) ∧ w'.cell? ⟨B, 1, none⟩ = some (.slice ad6 L6 cap6))
            ((refine At.c2 (B := B) (a := .bool false) (b := .slice ad6 L6 cap6) ?_; ((with_reducible repeat' (first | assumption | exact At.new1 _ _ _ | exact At.new2 _ _ _ _ | exact At.new3 _ _ _ _ _ | exact At.nx1 _ _ _ | exact At.nx2 _ _ _ _ | exact At.nx3 _ _ _ _ _ | exact At.ny1 _ _ _ _ | exact At.ny2 _ _ _ _ _ | exact At.ny3 _ _ _ _ _ _ | exact At.nz1 _ _ _ _ _ | exact At.nz2 _ _ _ _ _ _ | exact At.nz3 _ _ _ _ _ _ _ | exact Has.new1 _ _ _ | exact Has.new2 _ _ _ _ | exact Has.new3 _ _ _ _ _ | exact Has.nx1 _ _ _ | exact Has.nx2 _ _ _ _ | exact Has.nx3 _ _ _ _ _ | exact Has.ny1 _ _ _ _ | exact Has.ny2 _ _ _ _ _ | exact Has.ny3 _ _ _ _ _ _ | exact Has.nz1 _ _ _ _ _ | exact Has.nz2 _ _ _ _ _ _ | exact Has.nz3 _ _ _ _ _ _ _ | refine At.fill1 ?_ _ | refine At.fill2 ?_ _ _ | refine At.fill3 ?_ _ _ _ | refine At.swap ?_ (by first | omega | (simp; omega)) _ _ | refine At.alloc ?_ _ | refine At.drew ?_ | refine At.skip ?_ (by first | omega | (simp; omega)) _ _ | refine At.below (by assumption) ?_ | refine Has.alloc ?_ _ | refine Has.drew ?_ | refine Has.set ?_ _ _ _ | refine Has.below (by assumption) ?_)); done)))
            ((first
              | (go_at_call 29; refine (HOd.out _).mono ?_; rintro e w8 ⟨m8, v8, rfl, h8, hB8, hs8⟩; (with_reducible first | replace NA := At.below hB8 NA | have NA := At.below hB8 (At.new2d' _ _ _ _) | have NA := At.below hB8 (At.drew (At.new2 _ _ _ _)) | have NA := At.below hB8 (At.new2 _ _ _ _) | skip); have N8 := hidb h8; clear h8; (try simp at hs8); have hz8 : wc.heap.size < w8.heap.size := (by omega); replace HC : Gr w w8 := Gr.step (by ((with_reducible repeat' (first | assumption | refine Gr.drew ?_ | refine Gr.alloc ?_ _ | refine Gr.set ?_ (by first | omega | (simp; omega)) _ _ | exact Gr.refl _)); done)) hB8; replace G6 : Gr wc w8 := Gr.step (by ((with_reducible repeat' (first | assumption | refine Gr.drew ?_ | refine Gr.alloc ?_ _ | refine Gr.set ?_ (by first | omega | (simp; omega)) _ _ | exact Gr.refl _)); done)) hB8; replace FR : At w8 (w.heap.size + 1 + 1) [.int .i64 0, .int .i64 0] := At.below hB8 (by ((with_reducible repeat' (first | assumption | exact At.new1 _ _ _ | exact At.new2 _ _ _ _ | exact At.new3 _ _ _ _ _ | exact At.nx1 _ _ _ | exact At.nx2 _ _ _ _ | exact At.nx3 _ _ _ _ _ | exact At.ny1 _ _ _ _ | exact At.ny2 _ _ _ _ _ | exact At.ny3 _ _ _ _ _ _ | exact At.nz1 _ _ _ _ _ | exact At.nz2 _ _ _ _ _ _ | exact At.nz3 _ _ _ _ _ _ _ | exact Has.new1 _ _ _ | exact Has.new2 _ _ _ _ | exact Has.new3 _ _ _ _ _ | exact Has.nx1 _ _ _ | exact Has.nx2 _ _ _ _ | exact Has.nx3 _ _ _ _ _ | exact Has.ny1 _ _ _ _ | exact Has.ny2 _ _ _ _ _ | exact Has.ny3 _ _ _ _ _ _ | exact Has.nz1 _ _ _ _ _ | exact Has.nz2 _ _ _ _ _ _ | exact Has.nz3 _ _ _ _ _ _ _ | refine At.fill1 ?_ _ | refine At.fill2 ?_ _ _ | refine At.fill3 ?_ _ _ _ | refine At.swap ?_ (by first | omega | (simp; omega)) _ _ | refine At.alloc ?_ _ | refine At.drew ?_ | refine At.skip ?_ (by first | omega | (simp; omega)) _ _ | refine At.below (by assumption) ?_ | refine Has.alloc ?_ _ | refine Has.drew ?_ | refine Has.set ?_ _ _ _ | refine Has.below (by assumption) ?_)); done)); replace BA : At w8 B [.bool false, .slice ad6 L6 cap6] := At.below hB8 (by ((with_reducible repeat' (first | assumption | exact At.new1 _ _ _ | exact At.new2 _ _ _ _ | exact At.new3 _ _ _ _ _ | exact At.nx1 _ _ _ | exact At.nx2 _ _ _ _ | exact At.nx3 _ _ _ _ _ | exact At.ny1 _ _ _ _ | exact At.ny2 _ _ _ _ _ | exact At.ny3 _ _ _ _ _ _ | exact At.nz1 _ _ _ _ _ | exact At.nz2 _ _ _ _ _ _ | exact At.nz3 _ _ _ _ _ _ _ | exact Has.new1 _ _ _ | exact Has.new2 _ _ _ _ | exact Has.new3 _ _ _ _ _ | exact Has.nx1 _ _ _ | exact Has.nx2 _ _ _ _ | exact Has.nx3 _ _ _ _ _ | exact Has.ny1 _ _ _ _ | exact Has.ny2 _ _ _ _ _ | exact Has.ny3 _ _ _ _ _ _ | exact Has.nz1 _ _ _ _ _ | exact Has.nz2 _ _ _ _ _ _ | exact Has.nz3 _ _ _ _ _ _ _ | refine At.fill1 ?_ _ | refine At.fill2 ?_ _ _ | refine At.fill3 ?_ _ _ _ | refine At.swap ?_ (by first | omega | (simp; omega)) _ _ | refine At.alloc ?_ _ | refine At.drew ?_ | refine At.skip ?_ (by first | omega | (simp; omega)) _ _ | refine At.below (by assumption) ?_ | refine Has.alloc ?_ _ | refine Has.drew ?_ | refine Has.set ?_ _ _ _ | refine Has.below (by assumption) ?_)); done)))
              | (go_at_call 13; refine (HRd.out _ _ _ _ _ (H6.out.below (Gr.out (by ((with_reducible repeat' (first | assumption | refine Gr.drew ?_ | refine Gr.alloc ?_ _ | refine Gr.set ?_ (by first | omega | (simp; omega)) _ _ | exact Gr.refl _)); done)))) (by first | exact N8.out | exact N8.out.alloc _)).mono ?_; rintro e w9 ⟨rfl, hB9⟩; (with_reducible first | replace NA := At.below hB9 NA | have NA := At.below hB9 (At.new2d' _ _ _ _) | have NA := At.below hB9 (At.drew (At.new2 _ _ _ _)) | have NA := At.below hB9 (At.new2 _ _ _ _) | skip); have hz9 : w8.heap.size ≤ w9.heap.size := (by have := hB9.size; (try simp at this); omega); replace HC : Gr w w9 := Gr.step (by ((with_reducible repeat' (first | assumption | refine Gr.drew ?_ | refine Gr.alloc ?_ _ | refine Gr.set ?_ (by first | omega | (simp; omega)) _ _ | exact Gr.refl _)); done)) hB9; replace FR : At w9 (w.heap.size + 1 + 1) [.int .i64 0, .int .i64 0] := At.below hB9 (by ((with_reducible repeat' (first | assumption | exact At.new1 _ _ _ | exact At.new2 _ _ _ _ | exact At.new3 _ _ _ _ _ | exact At.nx1 _ _ _ | exact At.nx2 _ _ _ _ | exact At.nx3 _ _ _ _ _ | exact At.ny1 _ _ _ _ | exact At.ny2 _ _ _ _ _ | exact At.ny3 _ _ _ _ _ _ | exact At.nz1 _ _ _ _ _ | exact At.nz2 _ _ _ _ _ _ | exact At.nz3 _ _ _ _ _ _ _ | exact Has.new1 _ _ _ | exact Has.new2 _ _ _ _ | exact Has.new3 _ _ _ _ _ | exact Has.nx1 _ _ _ | exact Has.nx2 _ _ _ _ | exact Has.nx3 _ _ _ _ _ | exact Has.ny1 _ _ _ _ | exact Has.ny2 _ _ _ _ _ | exact Has.ny3 _ _ _ _ _ _ | exact Has.nz1 _ _ _ _ _ | exact Has.nz2 _ _ _ _ _ _ | exact Has.nz3 _ _ _ _ _ _ _ | refine At.fill1 ?_ _ | refine At.fill2 ?_ _ _ | refine At.fill3 ?_ _ _ _ | refine At.swap ?_ (by first | omega | (simp; omega)) _ _ | refine At.alloc ?_ _ | refine At.drew ?_ | refine At.skip ?_ (by first | omega | (simp; omega)) _ _ | refine At.below (by assumption) ?_ | refine Has.alloc ?_ _ | refine Has.drew ?_ | refine Has.set ?_ _ _ _ | refine Has.below (by assumption) ?_)); done)); replace BA : At w9 B [.bool false, .slice ad6 L6 cap6] := At.below hB9 (by ((with_reducible repeat' (first | assumption | exact At.new1 _ _ _ | exact At.new2 _ _ _ _ | exact At.new3 _ _ _ _ _ | exact At.nx1 _ _ _ | exact At.nx2 _ _ _ _ | exact At.nx3 _ _ _ _ _ | exact At.ny1 _ _ _ _ | exact At.ny2 _ _ _ _ _ | exact At.ny3 _ _ _ _ _ _ | exact At.nz1 _ _ _ _ _ | exact At.nz2 _ _ _ _ _ _ | exact At.nz3 _ _ _ _ _ _ _ | exact Has.new1 _ _ _ | exact Has.new2 _ _ _ _ | exact Has.new3 _ _ _ _ _ | exact Has.nx1 _ _ _ | exact Has.nx2 _ _ _ _ | exact Has.nx3 _ _ _ _ _ | exact Has.ny1 _ _ _ _ | exact Has.ny2 _ _ _ _ _ | exact Has.ny3 _ _ _ _ _ _ | exact Has.nz1 _ _ _ _ _ | exact Has.nz2 _ _ _ _ _ _ | exact Has.nz3 _ _ _ _ _ _ _ | refine At.fill1 ?_ _ | refine At.fill2 ?_ _ _ | refine At.fill3 ?_ _ _ _ | refine At.swap ?_ (by first | omega | (simp; omega)) _ _ | refine At.alloc ?_ _ | refine At.drew ?_ | refine At.skip ?_ (by first | omega | (simp; omega)) _ _ | refine At.below (by assumption) ?_ | refine Has.alloc ?_ _ | refine Has.drew ?_ | refine Has.set ?_ _ _ _ | refine Has.below (by assumption) ?_)); done)); (first | (obtain ⟨n0, n1⟩ := NA.c2; obtain ⟨n2, n3⟩ := NA.f2; have NH := NA.has (n := 2) rfl) | skip))))
          all_goals
            go_wp2_with fail
            go_meet
            refine ⟨_, rfl, rfl, ?_, ?_, ?_, ?_⟩
          all_goals first | ((with_reducible repeat' (first | assumption | exact At.new1 _ _ _ | exact At.new2 _ _ _ _ | exact At.new3 _ _ _ _ _ | exact At.new5 _ _ _ _ _ _ _ | exact At.nx1 _ _ _ | exact At.nx2 _ _ _ _ | exact At.nx3 _ _ _ _ _ | exact At.ny1 _ _ _ _ | exact At.ny2 _ _ _ _ _ | exact At.ny3 _ _ _ _ _ _ | exact At.nz1 _ _ _ _ _ | exact At.nz2 _ _ _ _ _ _ | exact At.nz3 _ _ _ _ _ _ _ | exact Has.new1 _ _ _ | exact Has.new2 _ _ _ _ | exact Has.new3 _ _ _ _ _ | exact Has.nx1 _ _ _ | exact Has.nx2 _ _ _ _ | exact Has.nx3 _ _ _ _ _ | exact Has.ny1 _ _ _ _ | exact Has.ny2 _ _ _ _ _ | exact Has.ny3 _ _ _ _ _ _ | exact Has.nz1 _ _ _ _ _ | exact Has.nz2 _ _ _ _ _ _ | exact Has.nz3 _ _ _ _ _ _ _ | refine At.fill4 ?_ _ _ _ _ | refine At.fill1 ?_ _ | refine At.fill2 ?_ _ _ | refine At.fill3 ?_ _ _ _ | refine At.swap ?_ (by first | omega | (simp; omega)) _ _ | refine At.alloc ?_ _ | refine At.drew ?_ | refine At.drewN ?_ _ | refine At.skip ?_ (by first | omega | (simp; omega)) _ _ | refine At.below (by assumption) ?_ | exact At.has (by assumption) rfl | refine Has.alloc ?_ _ | refine Has.drew ?_ | refine Has.drewN ?_ _ | refine Has.set ?_ _ _ _ | refine Has.below (by assumption) ?_)); done) | ((with_reducible repeat' (first | assumption | refine Gr.drew ?_ | refine Gr.alloc ?_ _ | refine Gr.set ?_ (by first | omega | (simp; omega)) _ _ | exact Gr.refl _)); done) | omega | (simp; omega)
        case rest =>
          clear FR HC FA FB FN p0 p1 BA H6
          obtain ⟨F, rfl, rfl, FF1, FR, HC, hFl⟩ := hcut
          obtain ⟨z0, z1⟩ := FR.c2
          obtain ⟨f0, f1⟩ := FR.f2
          obtain ⟨x0, x1⟩ := FF1.c2
          have hnf : ¬ w.heap.size + 1 + 1 = F := by omega
          rw [K4.out]
          have K1 := hidb g1
          have K2 := hidb g2
          have K3 := hidb g3
          clear g1 g2 g3 HPN x0 x1
          go_wp2
          exact bodyPost_ret (v := .tuple #[.int .i64 0, fr0, .int .i64 2]) (by simp [results, Tryd.results21, go_sem, z0, z1]) rfl ⟨by rw [K1.out, K2.out, K3.out], (HC.set hge _ _).set hge _ _⟩
end Go.Proofs.YtilgamhdcmkkeaaDoor
