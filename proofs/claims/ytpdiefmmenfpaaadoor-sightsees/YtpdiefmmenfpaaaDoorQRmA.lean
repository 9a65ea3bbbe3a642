/-
  relief.square.times, times.
-/
import Derived.Test.YtpdiefmmenfpaaaDoorQRlB
import Derived.Test.YtpdiefmmenfpaaaDoorQSiA
namespace Go.Proofs.YtpdiefmmenfpaaaDoor
open Go.RowKit

theorem mul_bdP {x p a b : Int} (x0 : 0 ≤ x) (x1 : x ≤ p) (hp : p ≤ 16777216) (ha : hiI a) (hb : hiI b) : -35184372088832 ≤ x * (a - b) ∧ x * (a - b) ≤ 35184372088832 := by
  obtain ⟨a1, a2⟩ := ha
  obtain ⟨b1, b2⟩ := hb
  have h1 : x * (a - b) ≤ x * 2097152 := Int.mul_le_mul_of_nonneg_left (by omega) x0
  have h2 : x * (-2097152) ≤ x * (a - b) := Int.mul_le_mul_of_nonneg_left (by omega) x0
  omega
set_option maxRecDepth 4000 in
set_option maxHeartbeats 4000000 in
theorem sqtimes_any {a b c d : Int} (u v p : Int) (ha : hiI a) (hb : hiI b) (hc : hiI c) (hd : hiI d) (u0 : 0 ≤ u) (u1 : u ≤ p) (v0 : 0 ≤ v) (v1 : v ≤ p) (hp : p ≤ 16777216) (w : World) : Calls Tryd.prog 72 #[sqV a b c d, .int .i64 u, .int .i64 v, .int .i64 p] w fun e w' => e = .returned (.int .i64 (riseP p a b c d u v)) ∧ Gr w w' := by
  have bd := riseP_bd (p := p) ha hb hc hd u0 u1 v0 v1
  have p1 := mul_bdP u0 u1 hp hb ha
  have p2 := mul_bdP v0 v1 hp hd hb
  have p3 := mul_bdP v0 v1 hp hc ha
  have p4 := mul_bdP u0 u1 hp hd hc
  have p5 : -35184372088832 ≤ a * p ∧ a * p ≤ 35184372088832 := by
    have h0 : 0 ≤ p := by omega
    have h1 : a * p ≤ 1048576 * p := Int.mul_le_mul_of_nonneg_right ha.2 h0
    have h2 : -1048576 * p ≤ a * p := Int.mul_le_mul_of_nonneg_right ha.1 h0
    omega
  obtain ⟨a1, a2⟩ := ha
  obtain ⟨b1, b2⟩ := hb
  obtain ⟨c1, c2⟩ := hc
  obtain ⟨d1, d2⟩ := hd
  have G0 := hidb ((Gr.refl w).alloc (.cells #[.int .i64 a, .int .i64 b, .int .i64 c, .int .i64 d] 117))
  obtain ⟨y1, h1, e1⟩ : ∃ z : Int, z = b - a ∧ IntKind.i64.wrap (b - a) = z := ⟨_, rfl, wrap_in (by omega) (by omega)⟩
  obtain ⟨y2, h2, e2⟩ : ∃ z : Int, z = d - b ∧ IntKind.i64.wrap (d - b) = z := ⟨_, rfl, wrap_in (by omega) (by omega)⟩
  obtain ⟨y3, h3, e3⟩ : ∃ z : Int, z = c - a ∧ IntKind.i64.wrap (c - a) = z := ⟨_, rfl, wrap_in (by omega) (by omega)⟩
  obtain ⟨y4, h4, e4⟩ : ∃ z : Int, z = d - c ∧ IntKind.i64.wrap (d - c) = z := ⟨_, rfl, wrap_in (by omega) (by omega)⟩
  rw [← h1] at p1
  rw [← h2] at p2
  rw [← h3] at p3
  rw [← h4] at p4
  obtain ⟨z1, k1, f1⟩ : ∃ z : Int, z = u * y1 ∧ IntKind.i64.wrap (u * y1) = z := ⟨_, rfl, wrap_in (by omega) (by omega)⟩
  obtain ⟨z2, k2, f2⟩ : ∃ z : Int, z = v * y2 ∧ IntKind.i64.wrap (v * y2) = z := ⟨_, rfl, wrap_in (by omega) (by omega)⟩
  obtain ⟨z3, k3, f3⟩ : ∃ z : Int, z = v * y3 ∧ IntKind.i64.wrap (v * y3) = z := ⟨_, rfl, wrap_in (by omega) (by omega)⟩
  obtain ⟨z4, k4, f4⟩ : ∃ z : Int, z = u * y4 ∧ IntKind.i64.wrap (u * y4) = z := ⟨_, rfl, wrap_in (by omega) (by omega)⟩
  rw [← k1] at p1
  rw [← k2] at p2
  rw [← k3] at p3
  rw [← k4] at p4
  obtain ⟨s1, j1, g1⟩ : ∃ z : Int, z = z1 + z2 ∧ IntKind.i64.wrap (z1 + z2) = z := ⟨_, rfl, wrap_in (by omega) (by omega)⟩
  obtain ⟨s2, j2, g2⟩ : ∃ z : Int, z = z3 + z4 ∧ IntKind.i64.wrap (z3 + z4) = z := ⟨_, rfl, wrap_in (by omega) (by omega)⟩
  obtain ⟨s3, j3, g3⟩ : ∃ z : Int, z = a * p ∧ IntKind.i64.wrap (a * p) = z := ⟨_, rfl, wrap_in (by omega) (by omega)⟩
  rw [← j3] at p5
  by_cases huv : u < v
  · have er : riseP p a b c d u v = s3 + s2 := by unfold riseP; rw [if_pos huv, ← h3, ← h4, ← k3, ← k4, ← j2, ← j3]
    obtain ⟨R, hR, g4⟩ : ∃ z : Int, z = s3 + s2 ∧ IntKind.i64.wrap (s3 + s2) = z := ⟨_, rfl, wrap_in (by omega) (by omega)⟩
    rw [er, ← hR]
    clear h1 h2 h3 h4 k1 k2 k3 k4 j1 j2 j3 p1 p2 p3 p4 p5 bd er a1 a2 b1 b2 c1 c2 d1 d2 u0 u1 v0 v1 hp hR
    go_enter Tryd.func72, Tryd.ntmps72
    go_wp2
    go_ret
    exact ⟨rfl, G0.out⟩
  · have er : riseP p a b c d u v = s3 + s1 := by unfold riseP; rw [if_neg huv, ← h1, ← h2, ← k1, ← k2, ← j1, ← j3]
    obtain ⟨R, hR, g4⟩ : ∃ z : Int, z = s3 + s1 ∧ IntKind.i64.wrap (s3 + s1) = z := ⟨_, rfl, wrap_in (by omega) (by omega)⟩
    rw [er, ← hR]
    clear h1 h2 h3 h4 k1 k2 k3 k4 j1 j2 j3 p1 p2 p3 p4 p5 bd er a1 a2 b1 b2 c1 c2 d1 d2 u0 u1 v0 v1 hp hR
    go_enter Tryd.func72, Tryd.ntmps72
    go_wp2
    go_ret
    exact ⟨rfl, G0.out⟩
/-- A block of a call's own. -/
structure KF (w W : World) (B : Nat) (k0 : List Value) : Prop where
  a0 : At W B k0
  gr : Gr w W
theorem KF.below {w W w' : World} {B : Nat} {k0 : List Value} (h : KF w W B k0) (hB : Below W.heap.size W w') : KF w w' B k0 := ⟨h.a0.below hB, Gr.step h.gr hB⟩
theorem KF.drew {w W : World} {B : Nat} {k0 : List Value} (h : KF w W B k0) : KF w W.drew B k0 := ⟨h.a0, h.gr.drew⟩
set_option maxRecDepth 4000 in
set_option maxHeartbeats 4000000 in
theorem times_any {b o cap m n X S p : Nat} {l : List Int} (x y q : Int) (hx : x = (X : Int)) (hy : y = (S : Int)) (hq : q = (p : Int)) (w : World) (h : Rs w b o cap l) (ok : Ok l m n) (hp : 1 ≤ p) (hp2 : p ≤ 256) (hX : X ≤ p * (m - 1)) (hS : S ≤ p * (n - 1)) : Calls Tryd.prog 56 #[raV m n (.slice (some ⟨b, o, none⟩) l.length cap), .int .i64 x, .int .i64 y, .int .i64 q] w fun e w' => e = .returned (.int .i64 (gP l m n X S p)) ∧ Gr w w' := by
  have hm1 := ok.m1
  have hn1 := ok.n1
  have hm2 := ok.m2
  have hn2 := ok.n2
  have hXd : X / p ≤ m - 1 := Nat.div_le_of_le_mul hX
  have hSd : S / p ≤ n - 1 := Nat.div_le_of_le_mul hS
  have hXu : X % p < p := Nat.mod_lt _ hp
  have hSu : S % p < p := Nat.mod_lt _ hp
  have hXl : X ≤ 1000000 := by have := Nat.mul_le_mul hp2 (show m - 1 ≤ 127 by omega); omega
  have hSl : S ≤ 1000000 := by have := Nat.mul_le_mul hp2 (show n - 1 ≤ 127 by omega); omega
  have CS := hidb (fun W1 (hG : Gr w W1) => squareOf_any (c := X / p) (r := S / p) W1 (h.below hG.out) ok (by omega) (by omega))
  have CA := hidb (fun W1 => sqtimes_any (a := gl l (S / p * m + X / p)) (b := gl l (S / p * m + min (X / p + 1) (m - 1))) (c := gl l (min (S / p + 1) (n - 1) * m + X / p)) (d := gl l (min (S / p + 1) (n - 1) * m + min (X / p + 1) (m - 1))) ((X % p : Nat) : Int) ((S % p : Nat) : Int) (p : Int) (ok.hi _) (ok.hi _) (ok.hi _) (ok.hi _) (by omega) (by omega) (by omega) (by omega) (by omega) W1)
  rw [show riseP p (gl l (S / p * m + X / p)) (gl l (S / p * m + min (X / p + 1) (m - 1))) (gl l (min (S / p + 1) (n - 1) * m + X / p)) (gl l (min (S / p + 1) (n - 1) * m + min (X / p + 1) (m - 1))) ((X % p : Nat) : Int) ((S % p : Nat) : Int) = gP l m n X S p from rfl] at CA
  generalize gP l m n X S p = R at *
  generalize gl l (S / p * m + X / p) = q0 at *
  generalize gl l (S / p * m + min (X / p + 1) (m - 1)) = q1 at *
  generalize gl l (min (S / p + 1) (n - 1) * m + X / p) = q2 at *
  generalize gl l (min (S / p + 1) (n - 1) * m + min (X / p + 1) (m - 1)) = q3 at *
  have hq0 : ¬ q = 0 := by omega
  obtain ⟨t1, t3, t5, t7⟩ := nat_q hx hq hXl
  obtain ⟨t2, t4, t6, t8⟩ := nat_q hy hq hSl
  rw [← hq] at CA
  obtain ⟨c, hc⟩ : ∃ c, c = X / p := ⟨_, rfl⟩
  obtain ⟨r, hr⟩ : ∃ c, c = S / p := ⟨_, rfl⟩
  obtain ⟨u, hu⟩ : ∃ c, c = X % p := ⟨_, rfl⟩
  obtain ⟨v, hv⟩ : ∃ c, c = S % p := ⟨_, rfl⟩
  rw [← hc] at t1 t5
  rw [← hr] at t2 t6
  rw [← hu] at t3 t7
  rw [← hv] at t4 t8
  rw [← hc, ← hr] at CS
  rw [← hu, ← hv] at CA
  have F := hidb (show KF w (w.alloc (.cells #[.int .i64 m, .int .i64 n, .slice (some ⟨b, o, none⟩) l.length cap] 35)) w.heap.size [.int .i64 m, .int .i64 n, .slice (some ⟨b, o, none⟩) l.length cap] from ⟨At.new3 _ _ _ _ _, (Gr.refl w).alloc _⟩)
  clear hm1 hn1 hm2 hn2 hc hr hu hv hy hX hS h ok hx hq hXd hSd hXu hSu hXl hSl hp hp2
  go_enter Tryd.func56, Tryd.ntmps56
  go_upto_region 1 with fail
  generalize w.alloc (.cells #[.int .i64 m, .int .i64 n, .slice (some ⟨b, o, none⟩) l.length cap] 35) = w1 at *
  have E := F.out
  clear F
  go_region_held (fun w' => w'.cell? ⟨w.heap.size, 0, none⟩ = some (.int .i64 m) ∧ w'.cell? ⟨w.heap.size, 1, none⟩ = some (.int .i64 n) ∧ w'.cell? ⟨w.heap.size, 2, none⟩ = some (.slice (some ⟨b, o, none⟩) l.length cap))
    (first | (with_reducible exact E.a0.c3) | exact E.a0.c3)
    ((first
      | (go_at_call 71; with_reducible refine (CS.out _ (by with_reducible first | exact E.gr | exact E.gr.drew)).mono ?_; rintro e w8 ⟨rfl, hB8⟩; (with_reducible first | replace E := E.below hB8.out | replace E := E.drew.below hB8.out); clear hB8)
      | (go_at_call 72; with_reducible refine (CA.out _).mono ?_; rintro e w9 ⟨rfl, hB8⟩; (with_reducible first | replace E := E.below hB8.out | replace E := E.drew.below hB8.out); clear hB8)))
  all_goals
    go_wp2
    go_ret
    first | exact ⟨rfl, E.gr⟩ | exact ⟨rfl, E.gr.drew⟩
end Go.Proofs.YtpdiefmmenfpaaaDoor
