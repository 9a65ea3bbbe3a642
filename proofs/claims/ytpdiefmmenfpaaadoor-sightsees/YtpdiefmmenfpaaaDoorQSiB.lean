/-
  relief.shaped, Times; sight.size, within, lack.
-/
import Derived.Test.YtpdiefmmenfpaaaDoorQRmA
import Derived.Test.YtpdiefmmenfpaaaDoorQRb
import Derived.Lib.MinMax
namespace Go.Proofs.YtpdiefmmenfpaaaDoor
open Go.RowKit
attribute [local go_sem ↓] Go.wp_at_zero Go.wp_at_succ

theorem swithin_any (n lo hi : Int) (w : World) : Calls Tryd.prog 59 #[.int .i64 n, .int .i64 lo, .int .i64 hi] w fun e w' => e = .returned (.bool (inI lo hi n)) ∧ w' = w := by
  unfold inI
  by_cases h : lo ≤ n
  · by_cases h2 : n ≤ hi
    all_goals
      go_enter Tryd.func59, Tryd.ntmps59
      go_wp2
      go_ret
      exact ⟨by simp [h, h2], rfl⟩
  · have e1 : decide (lo ≤ n) = false := decide_eq_false h
    rw [e1]
    clear e1
    go_enter Tryd.func59, Tryd.ntmps59
    go_wp2
    go_ret
    exact ⟨by simp, rfl⟩
theorem ssize_any (z : Int) (h1 : -1000000 ≤ z) (h2 : z ≤ 1000000) (w : World) : Calls Tryd.prog 62 #[.int .i64 z] w fun e w' => e = .returned (.int .i64 (z.natAbs : Int)) ∧ w' = w := by
  obtain ⟨y, hy, e1⟩ : ∃ y : Int, y = -z ∧ IntKind.i64.wrap (-z) = y := ⟨_, rfl, wrap_in (by omega) (by omega)⟩
  obtain ⟨k, hk⟩ : ∃ k : Int, k = (z.natAbs : Int) := ⟨_, rfl⟩
  have e2 : max z y = k := by omega
  rw [← hk]
  clear h1 h2 hy hk
  go_enter Tryd.func62, Tryd.ntmps62
  go_wp2
  go_ret
  exact ⟨rfl, rfl⟩
theorem inI_yes {lo hi n : Int} (h1 : lo ≤ n) (h2 : n ≤ hi) : inI lo hi n = true := by unfold inI; simp [h1, h2]
set_option maxRecDepth 4000 in
set_option maxHeartbeats 4000000 in
theorem shaped_any {m n : Nat} {l : List Int} (ok : Ok l m n) (ad : Option Addr) (cap : Nat) (w : World) : Calls Tryd.prog 93 #[raV m n (.slice ad l.length cap)] w fun e w' => e = .returned (.bool true) ∧ Gr w w' := by
  have C1 := hidb (fun w => rwithin_any (m : Int) 1 128 w)
  have C2 := hidb (fun w => rwithin_any (n : Int) 1 128 w)
  rw [inI_yes (by have := ok.m1; omega) (by have := ok.m2; omega)] at C1
  rw [inI_yes (by have := ok.n1; omega) (by have := ok.n2; omega)] at C2
  obtain ⟨N, hN⟩ : ∃ N, N = l.length := ⟨_, rfl⟩
  have e1 : IntKind.i64.wrap ((m : Int) * (n : Int)) = (N : Int) := by rw [← Int.natCast_mul, hN, ok.len]; exact wrap_in (by omega) (by have := ok.len_le; rw [ok.len] at this; omega)
  have G0 := hidb ((Gr.refl w).alloc (.cells #[.int .i64 m, .int .i64 n, .slice ad l.length cap] 35))
  rw [← hN] at G0 ⊢
  clear ok hN
  go_enter Tryd.func93, Tryd.ntmps93
  go_wp2_with fail
  refine (C1.out _).mono ?_
  rintro e w1 ⟨rfl, rfl⟩
  go_wp2_with fail
  refine (C2.out _).mono ?_
  rintro e w1 ⟨rfl, rfl⟩
  go_wp2
  go_ret
  exact ⟨rfl, G0.out⟩
set_option maxRecDepth 4000 in
set_option maxHeartbeats 4000000 in
theorem Times_any {b o cap m n X S p : Nat} {l : List Int} (x y q : Int) (hx : x = (X : Int)) (hy : y = (S : Int)) (hq : q = (p : Int)) (w : World) (h : Rs w b o cap l) (ok : Ok l m n) (hp : 1 ≤ p) (hp2 : p ≤ 256) (hX : X ≤ p * (m - 1)) (hS : S ≤ p * (n - 1)) : Calls Tryd.prog 79 #[raV m n (.slice (some ⟨b, o, none⟩) l.length cap), .int .i64 x, .int .i64 y, .int .i64 q] w fun e w' => e = .returned (.tuple #[.int .i64 (gP l m n X S p), .bool true]) ∧ Gr w w' := by
  have hm1 := ok.m1
  have hn1 := ok.n1
  have hm2 := ok.m2
  have hn2 := ok.n2
  have F := hidb (show KF w (w.alloc (.cells #[.int .i64 m, .int .i64 n, .slice (some ⟨b, o, none⟩) l.length cap] 35)) w.heap.size [.int .i64 m, .int .i64 n, .slice (some ⟨b, o, none⟩) l.length cap] from ⟨At.new3 _ _ _ _ _, (Gr.refl w).alloc _⟩)
  have CS := hidb (fun W => shaped_any ok (some ⟨b, o, none⟩) cap W)
  have CT := hidb (fun W (hG : Gr w W) => times_any x y q hx hy hq W (h.below hG.out) ok hp hp2 hX hS)
  have hpm : (p : Int) * ((m : Int) - 1) = ((p * (m - 1) : Nat) : Int) := by rw [Int.natCast_mul, Int.natCast_sub hm1]; rfl
  have hpn : (p : Int) * ((n : Int) - 1) = ((p * (n - 1) : Nat) : Int) := by rw [Int.natCast_mul, Int.natCast_sub hn1]; rfl
  have hXl : p * (m - 1) ≤ 1000000 := by have := Nat.mul_le_mul hp2 (show m - 1 ≤ 127 by omega); omega
  have hSl : p * (n - 1) ≤ 1000000 := by have := Nat.mul_le_mul hp2 (show n - 1 ≤ 127 by omega); omega
  obtain ⟨m1, hm3, e1⟩ : ∃ z : Int, z = (m : Int) - 1 ∧ IntKind.i64.wrap ((m : Int) - 1) = z := ⟨_, rfl, wrap_in (by omega) (by omega)⟩
  obtain ⟨n1, hn3, e2⟩ : ∃ z : Int, z = (n : Int) - 1 ∧ IntKind.i64.wrap ((n : Int) - 1) = z := ⟨_, rfl, wrap_in (by omega) (by omega)⟩
  rw [← hm3, ← hq] at hpm
  rw [← hn3, ← hq] at hpn
  obtain ⟨u, hu, e3⟩ : ∃ z : Int, z = q * m1 ∧ IntKind.i64.wrap (q * m1) = z := ⟨_, rfl, by rw [hpm]; exact wrap_in (by omega) (by omega)⟩
  obtain ⟨v, hv, e4⟩ : ∃ z : Int, z = q * n1 ∧ IntKind.i64.wrap (q * n1) = z := ⟨_, rfl, by rw [hpn]; exact wrap_in (by omega) (by omega)⟩
  have C1 := hidb (fun w => rwithin_any q 1 16777216 w)
  rw [inI_yes (by omega) (by omega)] at C1
  have C2 := hidb (fun w => rwithin_any x 0 u w)
  rw [inI_yes (by omega) (by omega)] at C2
  have C3 := hidb (fun w => rwithin_any y 0 v w)
  rw [inI_yes (by omega) (by omega)] at C3
  generalize gP l m n X S p = R at *
  generalize l.length = N at *
  clear hx hy hq h ok hp hp2 hX hS hpm hpn hXl hSl hm3 hn3 hu hv hm1 hn1 hm2 hn2
  go_enter Tryd.func79, Tryd.ntmps79
  obtain ⟨q0, q1, q2⟩ := F.out.a0.c3
  go_wp2_with fail
  refine (CS.out _).mono ?_
  rintro e w1 ⟨rfl, hB⟩
  replace F := hidb (F.out.below hB.out)
  clear q0 q1 q2 hB CS
  go_wp2_with fail
  refine (C1.out _).mono ?_
  rintro e w1 ⟨rfl, rfl⟩
  obtain ⟨q0, q1, q2⟩ := F.out.a0.c3
  go_wp2_with fail
  refine (C2.out _).mono ?_
  rintro e w1 ⟨rfl, rfl⟩
  go_wp2_with fail
  refine (C3.out _).mono ?_
  rintro e w1 ⟨rfl, rfl⟩
  go_wp2_with fail
  refine (CT.out _ F.out.gr).mono ?_
  rintro e w1 ⟨rfl, hB⟩
  have G := hidb (Gr.step F.out.gr hB.out)
  clear hB q0 q1 q2 F CT
  go_wp2
  go_ret2
  exact ⟨rfl, G.out⟩
/-- A line's value. -/
abbrev lnV (m n : Nat) (v : Value) (c r e s x y : Int) : Value := .agg #[.int .i64 (m : Int), .int .i64 (n : Int), v, .int .i64 c, .int .i64 r, .int .i64 e, .int .i64 s, .int .i64 x, .int .i64 y]
abbrev lnC (m n : Nat) (v : Value) (c r e s x y : Int) : List Value := [.int .i64 (m : Int), .int .i64 (n : Int), v, .int .i64 c, .int .i64 r, .int .i64 e, .int .i64 s, .int .i64 x, .int .i64 y]
theorem At.c9 {W : World} {B : Nat} {a b c d e f g h i : Value} (H : At W B [a, b, c, d, e, f, g, h, i]) : W.cell? ⟨B, 0, none⟩ = some a ∧ W.cell? ⟨B, 1, none⟩ = some b ∧ W.cell? ⟨B, 2, none⟩ = some c ∧ W.cell? ⟨B, 3, none⟩ = some d ∧ W.cell? ⟨B, 4, none⟩ = some e ∧ W.cell? ⟨B, 5, none⟩ = some f ∧ W.cell? ⟨B, 6, none⟩ = some g ∧ W.cell? ⟨B, 7, none⟩ = some h ∧ W.cell? ⟨B, 8, none⟩ = some i :=
  ⟨(H.1 0 (by simp)).1, (H.1 1 (by simp)).1, (H.1 2 (by simp)).1, (H.1 3 (by simp)).1, (H.1 4 (by simp)).1, (H.1 5 (by simp)).1, (H.1 6 (by simp)).1, (H.1 7 (by simp)).1, (H.1 8 (by simp)).1⟩
theorem At.f9 {W : World} {B : Nat} {a b c d e f g h i : Value} (H : At W B [a, b, c, d, e, f, g, h, i]) : W.frozen? ⟨B, 0, none⟩ = false ∧ W.frozen? ⟨B, 1, none⟩ = false ∧ W.frozen? ⟨B, 2, none⟩ = false ∧ W.frozen? ⟨B, 3, none⟩ = false ∧ W.frozen? ⟨B, 4, none⟩ = false ∧ W.frozen? ⟨B, 5, none⟩ = false ∧ W.frozen? ⟨B, 6, none⟩ = false ∧ W.frozen? ⟨B, 7, none⟩ = false ∧ W.frozen? ⟨B, 8, none⟩ = false :=
  ⟨(H.1 0 (by simp)).2, (H.1 1 (by simp)).2, (H.1 2 (by simp)).2, (H.1 3 (by simp)).2, (H.1 4 (by simp)).2, (H.1 5 (by simp)).2, (H.1 6 (by simp)).2, (H.1 7 (by simp)).2, (H.1 8 (by simp)).2⟩
/-- A height of an end. -/
def hiE (x : Int) : Prop := -2097152 ≤ x ∧ x ≤ 2097152
theorem mul254 {k x : Int} (h0 : 0 ≤ k) (h1 : k ≤ 254) {M : Int} (hM : 0 ≤ M) (hx : -M ≤ x ∧ x ≤ M) : -(254 * M) ≤ k * x ∧ k * x ≤ 254 * M := by
  have a1 : k * x ≤ k * M := Int.mul_le_mul_of_nonneg_left hx.2 h0
  have a2 : k * -M ≤ k * x := Int.mul_le_mul_of_nonneg_left hx.1 h0
  have a3 : k * M ≤ 254 * M := Int.mul_le_mul_of_nonneg_right h1 hM
  have a4 : k * -M = -(k * M) := Int.mul_neg k M
  omega
theorem lkK_bd {l : List Int} {m n c0 r0 c1 r1 : Nat} {x y : Int} (h : ∀ i, hiI (gl l i)) (hx : hiE x) (hy : hiE y) {p : Nat × Nat} (h1 : 1 ≤ p.1) (h2 : p.1 < p.2) (h3 : p.2 ≤ 254) : -2000000000 ≤ lkK l m n c0 r0 c1 r1 x y p ∧ lkK l m n c0 r0 c1 r1 x y p ≤ 2000000000 := by
  have b1 : -1048576 * (p.2 : Int) ≤ gK l m n c0 r0 c1 r1 p ∧ gK l m n c0 r0 c1 r1 p ≤ 1048576 * (p.2 : Int) := gP_bd (by omega) h
  have b2 := mul254 (k := (p.2 : Int) - p.1) (x := x) (by omega) (by omega) (M := 2097152) (by omega) hx
  have b3 := mul254 (k := (p.1 : Int)) (x := y) (by omega) (by omega) (M := 2097152) (by omega) hy
  unfold lkK
  omega
set_option maxRecDepth 4000 in
set_option maxHeartbeats 8000000 in
theorem lack_any {b o cap m n c0 r0 c1 r1 k p : Nat} {l : List Int} (x y : Int) (w : World) (h : Rs w b o cap l) (ok : Ok l m n) (hc0 : c0 < m) (hc1 : c1 < m) (hr0 : r0 < n) (hr1 : r1 < n) (hx : hiE x) (hy : hiE y) (hk : 1 ≤ k) (hkp : k < p) (hp : p ≤ 254) : Calls Tryd.prog 60 #[lnV m n (.slice (some ⟨b, o, none⟩) l.length cap) (c0 : Int) (r0 : Int) ((c1 : Int) - c0) ((r1 : Int) - r0) x y, .int .i64 (k : Int), .int .i64 (p : Int)] w fun e w' => e = .returned (.int .i64 (lkK l m n c0 r0 c1 r1 x y (k, p))) ∧ Gr w w' := by
  have hm2 := ok.m2
  have hn2 := ok.n2
  have sx := sX_le (c0 := c0) (c1 := c1) (M := m - 1) (Nat.le_of_lt hkp) (by omega) (by omega)
  have sy := sX_le (c0 := r0) (c1 := r1) (M := n - 1) (Nat.le_of_lt hkp) (by omega) (by omega)
  have ix := sX_int (c0 := c0) (c1 := c1) (Nat.le_of_lt hkp)
  have iy := sX_int (c0 := r0) (c1 := r1) (Nat.le_of_lt hkp)
  obtain ⟨X, hX⟩ : ∃ X, X = sX c0 c1 k p := ⟨_, rfl⟩
  obtain ⟨S, hS⟩ : ∃ X, X = sX r0 r1 k p := ⟨_, rfl⟩
  rw [← hX] at sx ix
  rw [← hS] at sy iy
  obtain ⟨xI, hxI⟩ : ∃ z : Int, z = (X : Int) := ⟨_, rfl⟩
  obtain ⟨yI, hyI⟩ : ∃ z : Int, z = (S : Int) := ⟨_, rfl⟩
  obtain ⟨pI, hpI⟩ : ∃ z : Int, z = (p : Int) := ⟨_, rfl⟩
  obtain ⟨kI, hkI⟩ : ∃ z : Int, z = (k : Int) := ⟨_, rfl⟩
  have bd := lkK_bd (m := m) (n := n) (c0 := c0) (r0 := r0) (c1 := c1) (r1 := r1) ok.hi hx hy (p := (k, p)) hk hkp hp
  have bg : -1048576 * (p : Int) ≤ gP l m n X S p ∧ gP l m n X S p ≤ 1048576 * (p : Int) := gP_bd (by omega) ok.hi
  have hlk : lkK l m n c0 r0 c1 r1 x y (k, p) = gP l m n X S p - (pI - kI) * x - kI * y := by rw [hpI, hkI, hX, hS]; rfl
  have CT := hidb (fun W (hG : Gr w W) => Times_any xI yI pI hxI hyI hpI W (h.below hG.out) ok (by omega) (by omega) sx sy)
  rw [hlk] at bd ⊢
  obtain ⟨e, he⟩ : ∃ z : Int, z = (c1 : Int) - c0 := ⟨_, rfl⟩
  obtain ⟨s, hs⟩ : ∃ z : Int, z = (r1 : Int) - r0 := ⟨_, rfl⟩
  obtain ⟨cI, hcI⟩ : ∃ z : Int, z = (c0 : Int) := ⟨_, rfl⟩
  obtain ⟨rI, hrI⟩ : ∃ z : Int, z = (r0 : Int) := ⟨_, rfl⟩
  rw [← he] at ix ⊢
  rw [← hs] at iy ⊢
  rw [← hpI, ← hkI, ← hcI] at ix
  rw [← hpI, ← hkI, ← hrI] at iy
  rw [← hpI] at bg
  rw [← hpI, ← hkI, ← hcI, ← hrI]
  generalize gP l m n X S p = g at *
  have q1 := mul254 (k := pI) (x := cI) (by omega) (by omega) (M := 128) (by omega) (by omega)
  have q2 := mul254 (k := kI) (x := e) (by omega) (by omega) (M := 128) (by omega) (by omega)
  have q3 := mul254 (k := pI) (x := rI) (by omega) (by omega) (M := 128) (by omega) (by omega)
  have q4 := mul254 (k := kI) (x := s) (by omega) (by omega) (M := 128) (by omega) (by omega)
  have q5 := mul254 (k := pI - kI) (x := x) (by omega) (by omega) (M := 2097152) (by omega) hx
  have q6 := mul254 (k := kI) (x := y) (by omega) (by omega) (M := 2097152) (by omega) hy
  obtain ⟨a1, t1, e1⟩ : ∃ z : Int, z = pI * cI ∧ IntKind.i64.wrap (pI * cI) = z := ⟨_, rfl, wrap_in (by omega) (by omega)⟩
  obtain ⟨a2, t2, e2⟩ : ∃ z : Int, z = kI * e ∧ IntKind.i64.wrap (kI * e) = z := ⟨_, rfl, wrap_in (by omega) (by omega)⟩
  obtain ⟨a3, t3, e3⟩ : ∃ z : Int, z = pI * rI ∧ IntKind.i64.wrap (pI * rI) = z := ⟨_, rfl, wrap_in (by omega) (by omega)⟩
  obtain ⟨a4, t4, e4⟩ : ∃ z : Int, z = kI * s ∧ IntKind.i64.wrap (kI * s) = z := ⟨_, rfl, wrap_in (by omega) (by omega)⟩
  obtain ⟨a5, t5, e5⟩ : ∃ z : Int, z = pI - kI ∧ IntKind.i64.wrap (pI - kI) = z := ⟨_, rfl, wrap_in (by omega) (by omega)⟩
  rw [← t5] at q5 bd ⊢
  obtain ⟨a6, t6, e6⟩ : ∃ z : Int, z = a5 * x ∧ IntKind.i64.wrap (a5 * x) = z := ⟨_, rfl, wrap_in (by omega) (by omega)⟩
  obtain ⟨a7, t7, e7⟩ : ∃ z : Int, z = kI * y ∧ IntKind.i64.wrap (kI * y) = z := ⟨_, rfl, wrap_in (by omega) (by omega)⟩
  rw [← t1, ← t2, ← hxI] at ix
  rw [← t3, ← t4, ← hyI] at iy
  rw [← t6] at q5 bd ⊢
  rw [← t7] at q6 bd ⊢
  have e8 : IntKind.i64.wrap (a1 + a2) = xI := by rw [← ix]; exact wrap_in (by omega) (by omega)
  have e9 : IntKind.i64.wrap (a3 + a4) = yI := by rw [← iy]; exact wrap_in (by omega) (by omega)
  obtain ⟨a8, t8, e10⟩ : ∃ z : Int, z = g - a6 ∧ IntKind.i64.wrap (g - a6) = z := ⟨_, rfl, wrap_in (by omega) (by omega)⟩
  rw [← t8] at bd ⊢
  obtain ⟨a9, t9, e11⟩ : ∃ z : Int, z = a8 - a7 ∧ IntKind.i64.wrap (a8 - a7) = z := ⟨_, rfl, wrap_in (by omega) (by omega)⟩
  rw [← t9]
  generalize l.length = N at *
  have F := hidb (show KF w (w.alloc (.cells #[.int .i64 (m : Int), .int .i64 (n : Int), .slice (some ⟨b, o, none⟩) N cap, .int .i64 cI, .int .i64 rI, .int .i64 e, .int .i64 s, .int .i64 x, .int .i64 y] 78)) w.heap.size (lnC m n (.slice (some ⟨b, o, none⟩) N cap) cI rI e s x y) from ⟨At.newRow w (lnC m n (.slice (some ⟨b, o, none⟩) N cap) cI rI e s x y) _, (Gr.refl w).alloc _⟩)
  clear hm2 hn2 sx sy ix iy hX hS hxI hyI hpI hkI bd bg hlk he hs hcI hrI q1 q2 q3 q4 q5 q6 t1 t2 t3 t4 t5 t6 t7 t8 t9 h ok hc0 hc1 hr0 hr1 hx hy hk hkp hp
  go_enter Tryd.func60, Tryd.ntmps60
  obtain ⟨z0, z1, z2, z3, z4, z5, z6, z7, z8⟩ := F.out.a0.c9
  go_wp2_with fail
  refine (CT.out _ F.out.gr).mono ?_
  rintro e w1 ⟨rfl, hB⟩
  replace F := hidb (F.out.below hB.out)
  clear hB CT z0 z1 z2 z3 z4 z5 z6 z7 z8
  obtain ⟨z0, z1, z2, z3, z4, z5, z6, z7, z8⟩ := F.out.a0.c9
  go_wp2
  go_ret
  exact ⟨rfl, F.out.gr⟩
end Go.Proofs.YtpdiefmmenfpaaaDoor
