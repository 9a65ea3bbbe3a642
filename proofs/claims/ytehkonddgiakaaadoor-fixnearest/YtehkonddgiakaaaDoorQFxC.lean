/-
  fix.chord.
-/
import Derived.Test.YtehkonddgiakaaaDoorQFxB
namespace Go.Proofs.YtehkonddgiakaaaDoor
open Go.RowKit WH
attribute [local go_sem ↓] Go.wp_at_zero Go.wp_at_succ

theorem Nm.step {W w' : World} {m : Bool} {v : Value} {z : Int} (hB : Below W.heap.size W w') (h : Nm W m v z) : Nm w' m v z := h.below hB
/-- An int. -/
def Wd (z : Int) : Prop := -9223372036854775808 ≤ z ∧ z ≤ 9223372036854775807
/-- In reach. -/
def Bw (z : Int) : Prop := z.natAbs < wlid
theorem bw_lt {z : Int} {k : Nat} (h : z.natAbs < 2 ^ k) (hk : k ≤ 250) : Bw z := by
  refine Nat.lt_of_lt_of_le h (Nat.le_trans (Nat.pow_le_pow_right (n := 2) (by decide) hk) (Nat.le_trans (show 2 ^ 250 ≤ 18446744073709551616 ^ 4 by decide) (pw_mono (by decide))))
theorem ofN (n : Int) (h : Wd n) (w : World) : Calls Tryd.prog 42 #[.int .i64 n] w fun e w' => ∃ m v, e = .returned (.agg #[.bool m, v]) ∧ Nm w' m v n ∧ Below w.heap.size w w' ∧ w.heap.size < w'.heap.size := of_any h.1 h.2 w
theorem timesN {w : World} {m n : Bool} {u v : Value} {x y : Int} (h : Nm w m u x) (k : Nm w n v y) (lx : Bw x) (ly : Bw y) : Calls Tryd.prog 44 #[.agg #[.bool m, u], .agg #[.bool n, v]] w fun e w' => ∃ o t, e = .returned (.agg #[.bool o, t]) ∧ Nm w' o t (x * y) ∧ Below w.heap.size w w' ∧ w.heap.size < w'.heap.size := times_nm lx ly h k
theorem lessN {w : World} {m n : Bool} {u v : Value} {x y : Int} (h : Nm w m u x) (k : Nm w n v y) (lx : Bw x) (ly : Bw y) : Calls Tryd.prog 46 #[.agg #[.bool m, u], .agg #[.bool n, v]] w fun e w' => ∃ o t, e = .returned (.agg #[.bool o, t]) ∧ Nm w' o t (x - y) ∧ Below w.heap.size w w' ∧ w.heap.size < w'.heap.size := less_nm lx ly h k
theorem bw_mul {x y : Int} {a b : Nat} (hx : x.natAbs < 2 ^ a) (hy : y.natAbs < 2 ^ b) : (x * y).natAbs < 2 ^ (a + b) := by
  rw [Int.natAbs_mul, Nat.pow_add]
  exact Nat.mul_lt_mul'' hx hy
/-- The chord's number. -/
def chd (d p q : Int) : Int := 4 * d * p - (d + p - q) * (d + p - q)
set_option maxRecDepth 4000 in
set_option maxHeartbeats 8000000 in
theorem chord_any {d p q : Int} (d0 : 0 ≤ d) (d1 : d ≤ 2251799813685248) (p0 : 0 ≤ p) (p1 : p ≤ 4503599627370496) (q0 : 0 ≤ q) (q1 : q ≤ 4503599627370496) (w : World) : Calls Tryd.prog 41 #[.int .i64 d, .int .i64 p, .int .i64 q] w fun e w' => ∃ o t, e = .returned (.agg #[.bool o, t]) ∧ Nm w' o t (chd d p q) ∧ Below w.heap.size w w' ∧ w.heap.size < w'.heap.size := by
  have a1 : IntKind.i64.wrap (d + p) = d + p := wr_in (by omega) (by omega)
  have a2 : IntKind.i64.wrap (d + p - q) = d + p - q := wr_in (by omega) (by omega)
  have a3 : IntKind.i64.wrap (4 * d) = 4 * d := wr_in (by omega) (by omega)
  have m1 : (d + p - q).natAbs < 2 ^ 54 := by omega
  have m2 : (4 * d).natAbs < 2 ^ 54 := by omega
  have m3 : p.natAbs < 2 ^ 54 := by omega
  have k1 : Wd (d + p - q) := by unfold Wd; omega
  have k2 : Wd (4 * d) := by unfold Wd; omega
  have k3 : Wd p := by unfold Wd; omega
  have b1 : Bw (d + p - q) := bw_lt m1 (by decide)
  have b2 : Bw (4 * d) := bw_lt m2 (by decide)
  have b3 : Bw p := bw_lt m3 (by decide)
  have b4 : Bw (4 * d * p) := bw_lt (bw_mul m2 m3) (by decide)
  have b5 : Bw ((d + p - q) * (d + p - q)) := bw_lt (bw_mul m1 m1) (by decide)
  unfold chd
  obtain ⟨dp, hdp⟩ : ∃ dp, dp = d + p := ⟨_, rfl⟩
  rw [← hdp] at a2 k1 b1 b5
  rw [← hdp]
  have a1' : IntKind.i64.wrap (d + p) = dp := by rw [hdp]; exact a1
  obtain ⟨mi, hmi⟩ : ∃ mi, mi = dp - q := ⟨_, rfl⟩
  rw [← hmi] at k1 b1 b5
  rw [← hmi]
  have a2' : IntKind.i64.wrap (dp - q) = mi := by rw [hmi]; exact a2
  obtain ⟨d4, hd4⟩ : ∃ d4, d4 = 4 * d := ⟨_, rfl⟩
  rw [← hd4] at k2 b2 b4
  rw [← hd4]
  have a3' : IntKind.i64.wrap (4 * d) = d4 := by rw [hd4]; exact a3
  clear a1 a2 a3 m1 m2 m3 d0 d1 p0 p1 q0 q1 hdp hmi hd4
  have HO := hidb (fun w => ofN mi k1 w)
  go_enter Tryd.func41, Tryd.ntmps41
  go_wp2_with fail
  refine (HO.out _).mono ?_
  rintro e w1 ⟨m0, u0, rfl, h0, hB0, _⟩
  obtain ⟨ad0, L0, cap0, hf0⟩ := h0.form
  subst hf0
  have RA := At.below hB0 (At.new2 w (.bool false) (.slice none 0 0) 68)
  have HC := Gr.step ((Gr.refl w).alloc (.cells #[.bool false, .slice none 0 0] 68)) hB0
  have hl0 := RA.lt
  clear hB0 HO
  go_upto_region 2 with fail
  obtain ⟨M, hM⟩ : ∃ M, M = w1.heap.size := ⟨_, rfl⟩
  have MA : At (w1.alloc (.cells #[.bool m0, .slice ad0 L0 cap0] 68)) M [.bool m0, .slice ad0 L0 cap0] := by rw [hM]; exact At.new2 w1 (.bool m0) (.slice ad0 L0 cap0) 68
  replace RA := RA.alloc (.cells #[.bool m0, .slice ad0 L0 cap0] 68)
  replace HC := HC.alloc (.cells #[.bool m0, .slice ad0 L0 cap0] 68)
  have N0 : Nm (w1.alloc (.cells #[.bool m0, .slice ad0 L0 cap0] 68)) m0 (.slice ad0 L0 cap0) mi := h0.below ((Below.refl _ _).alloc (Nat.le_refl _) _)
  have hlt : w.heap.size < M := by rw [hM]; exact hl0
  rw [← hM]
  clear h0 hM hl0
  generalize w1.alloc (.cells #[.bool m0, .slice ad0 L0 cap0] 68) = w2 at *
  go_region_held (fun w' => w'.cell? ⟨M, 0, none⟩ = some (.bool m0) ∧ w'.cell? ⟨M, 1, none⟩ = some (.slice ad0 L0 cap0))
    (first | (with_reducible exact MA.c2) | (with_reducible exact (At.skip (At.skip MA (by omega) _ _) (by omega) _ _).c2) | exact MA.c2)
    ((first
      | (go_at_call 42; refine (ofN _ (by with_reducible assumption) _).mono ?_; rintro e w3 ⟨o1, t1, rfl, h1, hB1, hs1⟩; clear hs1; (with_reducible first | replace hB1 := undr hB1 | skip); replace HC := Gr.step HC hB1; replace RA := At.below hB1 RA; replace MA := At.below hB1 MA)
      | (go_at_call 44; refine (timesN (x := ?gx) (y := ?gy) ?gh ?gk ?gl ?gm).mono ?_; (case gh => ((with_reducible repeat' (first | assumption | refine Nm.drew ?_ | refine Nm.step (by assumption) ?_)); done)); (case gk => ((with_reducible repeat' (first | assumption | refine Nm.drew ?_ | refine Nm.step (by assumption) ?_)); done)); (case gl => with_reducible assumption); (case gm => with_reducible assumption); rintro e w3 ⟨o1, t1, rfl, h1, hB1, hs1⟩; clear hs1; (with_reducible first | replace hB1 := undr hB1 | skip); replace HC := Gr.step HC hB1; replace RA := At.below hB1 RA; replace MA := At.below hB1 MA)
      | (go_at_call 44; refine (timesN (x := ?kx) (y := ?ky) ?kh ?kk ?kl ?km).mono ?_; (case kh => ((with_reducible repeat' (first | assumption | refine Nm.drew ?_ | refine Nm.step (by assumption) ?_)); done)); (case kk => ((with_reducible repeat' (first | assumption | refine Nm.drew ?_ | refine Nm.step (by assumption) ?_)); done)); (case kl => with_reducible assumption); (case km => with_reducible assumption); rintro e w3 ⟨o1, t1, rfl, h1, hB1, hs1⟩; clear hs1; (with_reducible first | replace hB1 := undr hB1 | skip); replace HC := Gr.step HC hB1; replace RA := At.below hB1 RA; replace MA := At.below hB1 MA)
      | (go_at_call 46; refine (lessN (x := ?jx) (y := ?jy) ?jh ?jk ?jl ?jm).mono ?_; (case jh => ((with_reducible repeat' (first | assumption | refine Nm.drew ?_ | refine Nm.step (by assumption) ?_)); done)); (case jk => ((with_reducible repeat' (first | assumption | refine Nm.drew ?_ | refine Nm.step (by assumption) ?_)); done)); (case jl => with_reducible assumption); (case jm => with_reducible assumption); rintro e w3 ⟨o1, t1, rfl, h1, hB1, hs1⟩; clear hs1; (with_reducible first | replace hB1 := undr hB1 | skip); replace HC := Gr.step HC hB1; replace RA := At.below hB1 RA; replace MA := At.below hB1 MA; obtain ⟨ad, L, cap, hf⟩ := h1.form; have HT5 := hidb h1; rw [hf] at HT5 ⊢; clear h1 hf; obtain ⟨r0, r1⟩ := RA.c2; obtain ⟨f0, f1⟩ := RA.f2)))
  all_goals
    go_wp2
    exact bodyPost_ret (v := .agg #[.bool o1, .slice ad L cap]) (by simp [results, Tryd.results41, go_sem, r0, r1]) rfl ⟨_, _, rfl, ⟨HT5.out.1.setS2 RA _, HT5.out.2⟩, (HC.set (Nat.le_refl _) _ _).set (Nat.le_refl _) _ _, by have := RA.lt; simp; omega⟩
end Go.Proofs.YtehkonddgiakaaaDoor
