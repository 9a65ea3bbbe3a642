/-
  mercatorref4.sizeOf, groundOn.
-/
import Derived.Test.YtpdiefmmenfpaaaDoorQSiK
namespace Go.Proofs.YtpdiefmmenfpaaaDoor
open Go.RowKit
attribute [local go_sem ↓] Go.wp_at_zero Go.wp_at_succ

theorem sizeOf_any (z : Int) (h1 : -1000000 ≤ z) (h2 : z ≤ 1000000) (w : World) : Calls Tryd.prog 46 #[.int .i64 z] w fun e w' => e = .returned (.int .i64 (z.natAbs : Int)) ∧ w' = w := by
  obtain ⟨k, hk⟩ : ∃ k : Int, k = (z.natAbs : Int) := ⟨_, rfl⟩
  rw [← hk]
  by_cases h : z < 0
  · have e1 : IntKind.i64.wrap (-z) = k := by rw [wrap_in (by omega) (by omega)]; omega
    clear h1 h2 hk
    go_enter Tryd.func46, Tryd.ntmps46
    go_wp2
    go_ret
    exact ⟨rfl, rfl⟩
  · have e1 : z = k := by omega
    subst e1
    clear h1 h2 hk
    go_enter Tryd.func46, Tryd.ntmps46
    go_wp2
    go_ret
    exact ⟨rfl, rfl⟩
theorem MF.drewN {w W : World} {pb po : Nat} {a b c : Value} {k : List Value} (h : MF w W pb po a b c k) {n : Nat} {W' : World} (e : World.drewN W n = W') : MF w W' pb po a b c k := by
  subst e
  exact ⟨h.a0.drewN n, h.p, h.gr.drewN n, h.lt⟩
/-- The ground by three corners of a triangle. -/
theorem riseP_a (p a b c d : Int) : riseP p a b c d 0 0 = a * p := by unfold riseP; simp
theorem riseP_b {p a b c d u : Int} (hu : 0 ≤ u) : riseP p a b c d u 0 = a * (p - u) + b * u := by unfold riseP; rw [if_neg (by omega)]; grind
theorem riseP_c {p a b c d v : Int} (hv : 0 < v) : riseP p a b c d 0 v = a * (p - v) + c * v := by unfold riseP; rw [if_pos hv]; grind
theorem riseP_d {p a b c d u v : Int} (h : v ≤ u) : riseP p a b c d u v = a * (p - u) + b * (u - v) + d * v := by unfold riseP; rw [if_neg (by omega)]; grind
theorem riseP_e {p a b c d u v : Int} (h : u < v) : riseP p a b c d u v = a * (p - v) + c * (v - u) + d * u := by unfold riseP; rw [if_pos h]; grind
theorem inner {X p m : Nat} (hX : X ≤ p * (m - 1)) (h : ¬ X % p = 0) : X / p + 1 ≤ m - 1 := by
  have h1 := Nat.div_add_mod X p
  have h2 : X / p ≤ m - 1 := Nat.div_le_of_le_mul hX
  rcases Nat.lt_or_ge (X / p) (m - 1) with c | c
  · exact c
  · have e : X / p = m - 1 := by omega
    rw [e] at h1
    omega
theorem nat_bd {q : Int} {a M : Nat} (hq : q = (a : Int)) (h : a ≤ M) : 0 ≤ q ∧ q ≤ (M : Int) := by omega
theorem mulH {x q : Int} (h0 : 0 ≤ q) (h1 : q ≤ 254) (hx : hiI x) : -266338304 ≤ x * q ∧ x * q ≤ 266338304 := by
  have := mul254 (k := q) (x := x) h0 h1 (M := 1048576) (by omega) hx
  rw [Int.mul_comm q x] at this
  omega
set_option maxRecDepth 4000 in
set_option maxHeartbeats 16000000 in
theorem groundOn_any {pb po b o cap m n fN tN k p : Nat} {l : List Int} (f t e u kI pI : Int) (hf : f = (fN : Int)) (ht : t = (tN : Int)) (hkI : kI = (k : Int)) (hpI : pI = (p : Int)) (w : World) (hp : PtR w pb po m n (.slice (some ⟨b, o, none⟩) l.length cap)) (h : Rs w b o cap l) (ok : Ok l m n) (hfN : fN < l.length) (htN : tN < l.length) (hk : 1 ≤ k) (hkp : k < p) (hp2 : p ≤ 254) : Calls Tryd.prog 47 #[.pointer (some ⟨pb, po, none⟩), loV f t e u, .int .i64 kI, .int .i64 pI] w fun ee w' => ee = .returned (.int .i64 (gK l m n (fN % m) (fN / m) (tN % m) (tN / m) (k, p))) ∧ Gr w w' := by
  have hm1 := ok.m1
  have hm2 := ok.m2
  have hn2 := ok.n2
  have hlen := ok.len_le
  obtain ⟨d1, d2⟩ := ok.div hfN
  obtain ⟨d3, d4⟩ := ok.div htN
  have sx := sX_le (c0 := fN % m) (c1 := tN % m) (M := m - 1) (Nat.le_of_lt hkp) (by omega) (by omega)
  have sy := sX_le (c0 := fN / m) (c1 := tN / m) (M := n - 1) (Nat.le_of_lt hkp) (by omega) (by omega)
  have ix := sX_int (c0 := fN % m) (c1 := tN % m) (Nat.le_of_lt hkp)
  have iy := sX_int (c0 := fN / m) (c1 := tN / m) (Nat.le_of_lt hkp)
  unfold gK
  simp only
  obtain ⟨X, hX⟩ : ∃ X, X = sX (fN % m) (tN % m) k p := ⟨_, rfl⟩
  obtain ⟨S, hS⟩ : ∃ X, X = sX (fN / m) (tN / m) k p := ⟨_, rfl⟩
  rw [← hX] at sx ix ⊢
  rw [← hS] at sy iy ⊢
  have hXl : X ≤ 1000000 := by have := Nat.mul_le_mul (show p ≤ 256 by omega) (show m - 1 ≤ 127 by omega); omega
  have hSl : S ≤ 1000000 := by have := Nat.mul_le_mul (show p ≤ 256 by omega) (show n - 1 ≤ 127 by omega); omega
  obtain ⟨mI, hmI⟩ : ∃ z : Int, z = (m : Int) := ⟨_, rfl⟩
  obtain ⟨t1, t2, t3, t4⟩ := nat_q hf hmI (by omega)
  obtain ⟨t5, t6, t7, t8⟩ := nat_q ht hmI (by omega)
  obtain ⟨q1, hq1⟩ : ∃ z : Int, z = ((fN % m : Nat) : Int) := ⟨_, rfl⟩
  obtain ⟨q2, hq2⟩ : ∃ z : Int, z = ((fN / m : Nat) : Int) := ⟨_, rfl⟩
  obtain ⟨q3, hq3⟩ : ∃ z : Int, z = ((tN % m : Nat) : Int) := ⟨_, rfl⟩
  obtain ⟨q4, hq4⟩ : ∃ z : Int, z = ((tN / m : Nat) : Int) := ⟨_, rfl⟩
  have b1 : 0 ≤ q1 ∧ q1 ≤ 128 := nat_bd hq1 (show fN % m ≤ 128 by omega)
  have b2 : 0 ≤ q2 ∧ q2 ≤ 128 := nat_bd hq2 (show fN / m ≤ 128 by omega)
  have b3 : 0 ≤ q3 ∧ q3 ≤ 128 := nat_bd hq3 (show tN % m ≤ 128 by omega)
  have b4 : 0 ≤ q4 ∧ q4 ≤ 128 := nat_bd hq4 (show tN / m ≤ 128 by omega)
  rw [← hq2] at t1 t3
  rw [← hq1] at t2 t4
  rw [← hq4] at t5 t7
  rw [← hq3] at t6 t8
  rw [← hq1, ← hq3, ← hpI, ← hkI] at ix
  rw [← hq2, ← hq4, ← hpI, ← hkI] at iy
  obtain ⟨xI, hxI⟩ : ∃ z : Int, z = (X : Int) := ⟨_, rfl⟩
  obtain ⟨yI, hyI⟩ : ∃ z : Int, z = (S : Int) := ⟨_, rfl⟩
  rw [← hxI] at ix
  rw [← hyI] at iy
  obtain ⟨s1, v1, e1⟩ : ∃ z : Int, z = q3 - q1 ∧ IntKind.i64.wrap (q3 - q1) = z := ⟨_, rfl, wrap_in (by omega) (by omega)⟩
  obtain ⟨s2, v2, e2⟩ : ∃ z : Int, z = q4 - q2 ∧ IntKind.i64.wrap (q4 - q2) = z := ⟨_, rfl, wrap_in (by omega) (by omega)⟩
  rw [← v1] at ix
  rw [← v2] at iy
  have w1 := mul254 (k := pI) (x := q1) (by omega) (by omega) (M := 128) (by omega) (by omega)
  have w2 := mul254 (k := kI) (x := s1) (by omega) (by omega) (M := 128) (by omega) (by omega)
  have w3 := mul254 (k := pI) (x := q2) (by omega) (by omega) (M := 128) (by omega) (by omega)
  have w4 := mul254 (k := kI) (x := s2) (by omega) (by omega) (M := 128) (by omega) (by omega)
  rw [Int.mul_comm pI q1] at w1 ix
  rw [Int.mul_comm kI s1] at w2 ix
  rw [Int.mul_comm pI q2] at w3 iy
  rw [Int.mul_comm kI s2] at w4 iy
  obtain ⟨a1, u1, e3⟩ : ∃ z : Int, z = q1 * pI ∧ IntKind.i64.wrap (q1 * pI) = z := ⟨_, rfl, wrap_in (by omega) (by omega)⟩
  obtain ⟨a2, u2, e4⟩ : ∃ z : Int, z = s1 * kI ∧ IntKind.i64.wrap (s1 * kI) = z := ⟨_, rfl, wrap_in (by omega) (by omega)⟩
  obtain ⟨a3, u3, e5⟩ : ∃ z : Int, z = q2 * pI ∧ IntKind.i64.wrap (q2 * pI) = z := ⟨_, rfl, wrap_in (by omega) (by omega)⟩
  obtain ⟨a4, u4, e6⟩ : ∃ z : Int, z = s2 * kI ∧ IntKind.i64.wrap (s2 * kI) = z := ⟨_, rfl, wrap_in (by omega) (by omega)⟩
  rw [← u1, ← u2] at ix
  rw [← u3, ← u4] at iy
  have e7 : IntKind.i64.wrap (a1 + a2) = xI := by rw [← ix]; exact wrap_in (by omega) (by omega)
  have e8 : IntKind.i64.wrap (a3 + a4) = yI := by rw [← iy]; exact wrap_in (by omega) (by omega)
  obtain ⟨t9, t10, t11, t12⟩ := nat_q hxI hpI hXl
  obtain ⟨t13, t14, t15, t16⟩ := nat_q hyI hpI hSl
  have hc : X / p ≤ m - 1 := Nat.div_le_of_le_mul sx
  have hr : S / p ≤ n - 1 := Nat.div_le_of_le_mul sy
  have hu : X % p < p := Nat.mod_lt _ (by omega)
  have hv : S % p < p := Nat.mod_lt _ (by omega)
  have hin := fun k => inner (X := X) (p := p) (m := m) sx k
  have hin2 := fun k => inner (X := S) (p := p) (m := n) sy k
  have hm0 : ¬ mI = 0 := by omega
  have hp0 : ¬ pI = 0 := by omega
  unfold gP
  rw [← hpI]
  generalize X / p = c at *
  generalize S / p = r at *
  generalize X % p = uN at *
  generalize S % p = vN at *
  obtain ⟨cI, hcI⟩ : ∃ z : Int, z = (c : Int) := ⟨_, rfl⟩
  obtain ⟨rI, hrI⟩ : ∃ z : Int, z = (r : Int) := ⟨_, rfl⟩
  obtain ⟨uI, huI⟩ : ∃ z : Int, z = (uN : Int) := ⟨_, rfl⟩
  obtain ⟨vI, hvI⟩ : ∃ z : Int, z = (vN : Int) := ⟨_, rfl⟩
  rw [← hcI] at t9 t11
  rw [← huI] at t10 t12 ⊢
  rw [← hrI] at t13 t15
  rw [← hvI] at t14 t16 ⊢
  have bu : 0 ≤ uI ∧ uI < pI := by omega
  have bv : 0 ≤ vI ∧ vI < pI := by omega
  have bp : pI ≤ 254 := by omega
  have i1 := ok.cell (c := c) (r := r) (by omega) (by omega)
  have km : ((r * m : Nat) : Int) = rI * mI := by rw [Int.natCast_mul, ← hrI, ← hmI]
  have km2 : (((r + 1) * m : Nat) : Int) = (rI + 1) * mI := by rw [Int.natCast_mul, Int.natCast_add, ← hrI, ← hmI]; rfl
  have HG := hidb (fun (W : World) (hG : Gr w W) (i : Nat) (hi : i < l.length) => (h.below hG.out).get hi)
  have HI := hidb (fun (i : Nat) (hi : i < l.length) => iindex b o l.length cap i hi)
  have HOk := hidb ok
  have E : Hid (MF w (w.alloc (.cells #[.int .i64 f, .int .i64 t, .int .i64 e, .int .i64 u] 47)) pb po (.int .i64 mI) (.int .i64 (n : Int)) (.slice (some ⟨b, o, none⟩) l.length cap) [.int .i64 f, .int .i64 t, .int .i64 e, .int .i64 u]) := by
    have hB := ((Gr.refl w).alloc (.cells #[.int .i64 f, .int .i64 t, .int .i64 e, .int .i64 u] 47))
    rw [hmI]
    exact ⟨At.new4 _ _ _ _ _ _, (hp.below hB.out).all, hB, lt_of_cell hp.c0⟩
  obtain ⟨j1, hj1⟩ : ∃ z : Nat, z = r * m := ⟨_, rfl⟩
  rw [← hj1] at i1 km ⊢
  have f1 : IntKind.i64.wrap (rI * mI) = (j1 : Int) := by rw [← km]; exact wrap_in (by omega) (by omega)
  have f2 : IntKind.i64.wrap ((j1 : Int) + cI) = ((j1 + c : Nat) : Int) := by rw [hcI, ← Int.natCast_add]; exact wrap_in (by omega) (by omega)
  obtain ⟨k1, hk1⟩ : ∃ z : Int, z = (j1 : Int) := ⟨_, rfl⟩
  obtain ⟨k2, hk2⟩ : ∃ z : Int, z = ((j1 + c : Nat) : Int) := ⟨_, rfl⟩
  rw [← hk1] at f1 f2
  rw [← hk2] at f2
  have IX1 := HI.out (j1 + c) i1
  rw [← hk2] at IX1
  have bnw := HOk.out.hi (j1 + c)
  have HB := hidb (show (c ≤ m - 1 ∧ r ≤ n - 1 ∧ m ≤ 128 ∧ n ≤ 128 ∧ 1 ≤ m ∧ 1 ≤ n ∧ l.length ≤ 16384) ∧ (uI = (uN : Int) ∧ vI = (vN : Int)) ∧ (cI = (c : Int) ∧ rI = (r : Int)) ∧ j1 = r * m ∧ k1 = (j1 : Int) ∧ k2 = ((j1 + c : Nat) : Int) from ⟨⟨hc, hr, hm2, hn2, hm1, ok.n1, hlen⟩, ⟨huI, hvI⟩, ⟨hcI, hrI⟩, hj1, hk1, hk2⟩)
  have HIn := hidb (show (¬ uN = 0 → c + 1 ≤ m - 1) ∧ (¬ vN = 0 → r + 1 ≤ n - 1) from ⟨hin, hin2⟩)
  have HK2 := hidb km2
  have HBu := hidb (show (0 ≤ uI ∧ uI < pI) ∧ (0 ≤ vI ∧ vI < pI) ∧ pI ≤ 254 from ⟨bu, bv, bp⟩)
  have HNW := hidb bnw
  have HI1 := hidb i1
  clear hmI hm1 hm2 hn2 hlen d1 d2 d3 d4 sx sy ix iy hX hS hXl hSl hq1 hq2 hq3 hq4 b1 b2 b3 b4 hxI hyI v1 v2 w1 w2 w3 w4 u1 u2 u3 u4 hc hr hu hv hin hin2 hcI hrI huI hvI bu bv bp km km2 hj1 hk1 hk2 i1 bnw hf ht hkI hpI hp h ok hfN htN hk hkp hp2
  obtain ⟨nw, hnw⟩ : ∃ z, z = gl l (j1 + c) := ⟨_, rfl⟩
  rw [← hnw] at HNW ⊢
  have HNw := hidb hnw
  clear hnw
  obtain ⟨R, hR⟩ : ∃ z, z = riseP pI nw (gl l (j1 + min (c + 1) (m - 1))) (gl l (min (r + 1) (n - 1) * m + c)) (gl l (min (r + 1) (n - 1) * m + min (c + 1) (m - 1))) uI vI := ⟨_, rfl⟩
  rw [← hR]
  have HR := hidb hR
  clear hR
  show Calls Tryd.prog 47 #[_, .agg #[.int .i64 f, .int .i64 t, .int .i64 e, .int .i64 u], _, _] w _
  generalize hLn : l.length = N at *
  go_enter Tryd.func47, Tryd.ntmps47
  go_upto_region 1 with fail
  obtain ⟨⟨p0, p1, p2⟩, r0, r1, r2, r3⟩ := E.out.all
  go_quiet (fail)
  go_upto_region 2 with fail
  clear p0 p1 p2 r0 r1 r2 r3
  generalize hw1 : World.drewN _ _ = wq1
  replace E := hidb (E.out.drewN hw1)
  clear hw1
  obtain ⟨⟨p0, p1, p2⟩, r0, r1, r2, r3⟩ := E.out.all
  go_quiet (fail)
  go_upto_region 3 with fail
  clear p0 p1 p2 r0 r1 r2 r3
  generalize hw2 : World.drewN _ _ = wq2
  replace E := hidb (E.out.drewN hw2)
  clear hw2
  obtain ⟨⟨p0, p1, p2⟩, r0, r1, r2, r3⟩ := E.out.all
  go_quiet (fail)
  go_upto_region 4 with fail
  clear p0 p1 p2 r0 r1 r2 r3
  generalize hw3 : World.drewN _ _ = wq3
  replace E := hidb (E.out.drewN hw3)
  clear hw3
  obtain ⟨⟨p0, p1, p2⟩, r0, r1, r2, r3⟩ := E.out.all
  go_quiet (fail)
  go_upto_region 9 with fail
  clear p0 p1 p2 r0 r1 r2 r3
  generalize hw4 : World.drewN _ _ = wq4
  replace E := hidb (E.out.drewN hw4)
  clear hw4
  obtain ⟨⟨p0, p1, p2⟩, r0, r1, r2, r3⟩ := E.out.all
  have cn := HG.out _ E.out.gr (j1 + c) HI1.out
  rw [← HNw.out] at cn
  go_quiet (fail)
  go_upto_region 10 with fail
  clear p0 p1 p2 r0 r1 r2 r3 cn
  generalize hw9 : World.drewN _ _ = wq9
  replace E := hidb (E.out.drewN hw9)
  clear hw9
  obtain ⟨⟨p0, p1, p2⟩, r0, r1, r2, r3⟩ := E.out.all
  by_cases h1 : uI = 0
  · by_cases h2 : vI = 0
    · subst h1 h2
      obtain ⟨G, hG, gG⟩ : ∃ z : Int, z = nw * pI ∧ IntKind.i64.wrap (nw * pI) = z := ⟨_, rfl, by have := mulH (q := pI) (by have := HBu.out; omega) HBu.out.2.2 HNW.out; exact wrap_in (by omega) (by omega)⟩
      have hGR : G = R := by rw [hG, HR.out, riseP_a]
      rw [hGR] at gG
      clear hG hGR
      go_wp2
      go_ret
      exact ⟨rfl, E.out.gr⟩
    · subst h1
      have hr1 : r + 1 ≤ n - 1 := HIn.out.2 (fun k => h2 (by rw [HB.out.2.1.2, k]; rfl))
      have hR2 := HR.out
      rw [riseP_c (by have := HBu.out.2.1; omega), Nat.min_eq_left hr1] at hR2
      have i5 : (r + 1) * m + c < N := by rw [← hLn]; exact HOk.out.cell (by have := HB.out.1; omega) (by have := HB.out.1; omega)
      obtain ⟨j5, hj5⟩ : ∃ z : Nat, z = (r + 1) * m := ⟨_, rfl⟩
      have hk5 := HK2.out
      rw [← hj5] at i5 hk5 hR2
      obtain ⟨y1, hy1, gy1⟩ : ∃ z : Int, z = rI + 1 ∧ IntKind.i64.wrap (rI + 1) = z := ⟨_, rfl, by have := HB.out.1; have := HB.out.2.2.1; exact wrap_in (by omega) (by omega)⟩
      rw [← hy1] at hk5
      obtain ⟨y2, hy2, gy2⟩ : ∃ z : Int, z = y1 * mI ∧ IntKind.i64.wrap (y1 * mI) = z := ⟨_, rfl, by have := HB.out.1; rw [← hk5]; exact wrap_in (by omega) (by omega)⟩
      rw [← hy2] at hk5
      obtain ⟨y3, hy3, gy3⟩ : ∃ z : Int, z = y2 + cI ∧ IntKind.i64.wrap (y2 + cI) = z := ⟨_, rfl, by have := HB.out.1; have := HB.out.2.2.1; exact wrap_in (by omega) (by omega)⟩
      have IX := HI.out (j5 + c) i5
      rw [show ((j5 + c : Nat) : Int) = y3 by have := HB.out.2.2.1; omega] at IX
      have cx := HG.out _ E.out.gr (j5 + c) i5
      have bx := HOk.out.hi (j5 + c)
      generalize gl l (j5 + c) = x at *
      obtain ⟨z1, hz1, gz1⟩ : ∃ z : Int, z = pI - vI ∧ IntKind.i64.wrap (pI - vI) = z := ⟨_, rfl, by have := HBu.out; exact wrap_in (by omega) (by omega)⟩
      obtain ⟨z2, hz2, gz2⟩ : ∃ z : Int, z = nw * z1 ∧ IntKind.i64.wrap (nw * z1) = z := ⟨_, rfl, by have := mulH (q := z1) (by have := HBu.out; omega) (by have := HBu.out; omega) HNW.out; exact wrap_in (by omega) (by omega)⟩
      obtain ⟨z3, hz3, gz3⟩ : ∃ z : Int, z = x * vI ∧ IntKind.i64.wrap (x * vI) = z := ⟨_, rfl, by have := mulH (q := vI) (by have := HBu.out; omega) (by have := HBu.out; omega) bx; exact wrap_in (by omega) (by omega)⟩
      have q1 := mulH (q := z1) (by have := HBu.out; omega) (by have := HBu.out; omega) HNW.out
      have q2 := mulH (q := vI) (by have := HBu.out; omega) (by have := HBu.out; omega) bx
      rw [← hz2] at q1
      rw [← hz3] at q2
      obtain ⟨G, hG, gG⟩ : ∃ z : Int, z = z2 + z3 ∧ IntKind.i64.wrap (z2 + z3) = z := ⟨_, rfl, by skip; exact wrap_in (by omega) (by omega)⟩
      have hGR : G = R := by rw [hG, hR2, hz2, hz3, hz1]
      rw [hGR] at gG
      have h2b : (vI == 0) = false := by simp [h2]
      clear hG hGR hR2 hr1 i5 hj5 hk5 hy1 hy2 hy3 bx hz1 hz2 hz3 q1 q2
      go_upto_region 15 with fail
      go_quiet (fail)
      go_wp2
      go_ret
      exact ⟨rfl, E.out.gr.drewN _⟩
  · have hc1 : c + 1 ≤ m - 1 := HIn.out.1 (fun k => h1 (by rw [HB.out.2.1.1, k]; rfl))
    have h1b : (uI == 0) = false := by simp [h1]
    have hR2 := HR.out
    rw [Nat.min_eq_left hc1] at hR2
    have i4 : j1 + (c + 1) < N := by rw [← hLn, HB.out.2.2.2.1]; exact HOk.out.cell (by have := HB.out.1; omega) (by have := HB.out.1; omega)
    obtain ⟨x4, hx4, gx4⟩ : ∃ z : Int, z = k2 + 1 ∧ IntKind.i64.wrap (k2 + 1) = z := ⟨_, rfl, by have := HB.out.1; have := HB.out.2.2.2.2.2; exact wrap_in (by omega) (by omega)⟩
    have IX4 := HI.out (j1 + (c + 1)) i4
    rw [show ((j1 + (c + 1) : Nat) : Int) = x4 by have := HB.out.2.2.2.2.2; omega] at IX4
    have bx4 := HOk.out.hi (j1 + (c + 1))
    obtain ⟨ne, hne⟩ : ∃ z, z = gl l (j1 + (c + 1)) := ⟨_, rfl⟩
    rw [← hne] at bx4 hR2
    by_cases h2 : vI = 0
    · subst h2
      have cx := HG.out _ E.out.gr (j1 + (c + 1)) i4
      rw [← hne] at cx
      rw [riseP_b (by have := HBu.out.1; omega)] at hR2
      obtain ⟨z1, hz1, gz1⟩ : ∃ z : Int, z = pI - uI ∧ IntKind.i64.wrap (pI - uI) = z := ⟨_, rfl, by have := HBu.out; exact wrap_in (by omega) (by omega)⟩
      obtain ⟨z2, hz2, gz2⟩ : ∃ z : Int, z = nw * z1 ∧ IntKind.i64.wrap (nw * z1) = z := ⟨_, rfl, by have := mulH (q := z1) (by have := HBu.out; omega) (by have := HBu.out; omega) HNW.out; exact wrap_in (by omega) (by omega)⟩
      obtain ⟨z3, hz3, gz3⟩ : ∃ z : Int, z = ne * uI ∧ IntKind.i64.wrap (ne * uI) = z := ⟨_, rfl, by have := mulH (q := uI) (by have := HBu.out; omega) (by have := HBu.out; omega) bx4; exact wrap_in (by omega) (by omega)⟩
      have q1 := mulH (q := z1) (by have := HBu.out; omega) (by have := HBu.out; omega) HNW.out
      have q2 := mulH (q := uI) (by have := HBu.out; omega) (by have := HBu.out; omega) bx4
      rw [← hz2] at q1
      rw [← hz3] at q2
      obtain ⟨G, hG, gG⟩ : ∃ z : Int, z = z2 + z3 ∧ IntKind.i64.wrap (z2 + z3) = z := ⟨_, rfl, by skip; exact wrap_in (by omega) (by omega)⟩
      have hGR : G = R := by rw [hG, hR2, hz2, hz3, hz1]
      rw [hGR] at gG
      clear hG hGR hR2 hc1 i4 hx4 bx4 hne hz1 hz2 hz3 q1 q2
      go_upto_region 13 with fail
      go_quiet (fail)
      go_wp2
      go_ret
      exact ⟨rfl, E.out.gr.drewN _⟩
    · have h2b : (vI == 0) = false := by simp [h2]
      have hr1 : r + 1 ≤ n - 1 := HIn.out.2 (fun k => h2 (by rw [HB.out.2.1.2, k]; rfl))
      rw [Nat.min_eq_left hr1] at hR2
      have i5 : (r + 1) * m + c < N := by rw [← hLn]; exact HOk.out.cell (by have := HB.out.1; omega) (by have := HB.out.1; omega)
      obtain ⟨j5, hj5⟩ : ∃ z : Nat, z = (r + 1) * m := ⟨_, rfl⟩
      have hk5 := HK2.out
      rw [← hj5] at i5 hk5 hR2
      obtain ⟨y1, hy1, gy1⟩ : ∃ z : Int, z = rI + 1 ∧ IntKind.i64.wrap (rI + 1) = z := ⟨_, rfl, by have := HB.out.1; have := HB.out.2.2.1; exact wrap_in (by omega) (by omega)⟩
      rw [← hy1] at hk5
      obtain ⟨y2, hy2, gy2⟩ : ∃ z : Int, z = y1 * mI ∧ IntKind.i64.wrap (y1 * mI) = z := ⟨_, rfl, by have := HB.out.1; rw [← hk5]; exact wrap_in (by omega) (by omega)⟩
      rw [← hy2] at hk5
      obtain ⟨y3, hy3, gy3⟩ : ∃ z : Int, z = y2 + cI ∧ IntKind.i64.wrap (y2 + cI) = z := ⟨_, rfl, by have := HB.out.1; have := HB.out.2.2.1; exact wrap_in (by omega) (by omega)⟩
      have i6 : j5 + (c + 1) < N := by rw [← hLn, hj5]; exact HOk.out.cell (by have := HB.out.1; omega) (by have := HB.out.1; omega)
      obtain ⟨y4, hy4, gy4⟩ : ∃ z : Int, z = y3 + 1 ∧ IntKind.i64.wrap (y3 + 1) = z := ⟨_, rfl, by have := HB.out.1; have := HB.out.2.2.1; exact wrap_in (by omega) (by omega)⟩
      have IX6 := HI.out (j5 + (c + 1)) i6
      rw [show ((j5 + (c + 1) : Nat) : Int) = y4 by have := HB.out.2.2.1; omega] at IX6
      have c6 := HG.out _ E.out.gr (j5 + (c + 1)) i6
      have bx6 := HOk.out.hi (j5 + (c + 1))
      generalize gl l (j5 + (c + 1)) = se at *
      have IX5 := HI.out (j5 + c) i5
      rw [show ((j5 + c : Nat) : Int) = y3 by have := HB.out.2.2.1; omega] at IX5
      have HC5 := hidb (fun W (hG : Gr w W) => HG.out W hG (j5 + c) i5)
      have bx5 := HOk.out.hi (j5 + c)
      generalize gl l (j5 + c) = sw at *
      have HC4 := hidb (fun W (hG : Gr w W) => HG.out W hG (j1 + (c + 1)) i4)
      rw [← hne] at HC4
      have HX := hidb (show hiI ne ∧ hiI sw ∧ hiI se from ⟨bx4, bx5, bx6⟩)
      have HR2 := hidb hR2
      clear hR2 hc1 hr1 i4 i5 i6 hx4 hy1 hy2 hy3 hy4 hj5 hk5 bx4 bx5 bx6 hne
      go_upto_region 16 with fail
      go_quiet (fail)
      go_upto_region 17 with fail
      clear p0 p1 p2 r0 r1 r2 r3 c6
      generalize hw16 : World.drewN _ _ = wq16
      replace E := hidb (E.out.drewN hw16)
      clear hw16
      obtain ⟨⟨p0, p1, p2⟩, r0, r1, r2, r3⟩ := E.out.all
      by_cases h3 : vI ≤ uI
      · have hR3 := HR2.out
        rw [riseP_d h3] at hR3
        have cx := HC4.out _ E.out.gr
        obtain ⟨z1, hz1, gz1⟩ : ∃ z : Int, z = pI - uI ∧ IntKind.i64.wrap (pI - uI) = z := ⟨_, rfl, by have := HBu.out; exact wrap_in (by omega) (by omega)⟩
        obtain ⟨z2, hz2, gz2⟩ : ∃ z : Int, z = nw * z1 ∧ IntKind.i64.wrap (nw * z1) = z := ⟨_, rfl, by have := mulH (q := z1) (by have := HBu.out; omega) (by have := HBu.out; omega) HNW.out; exact wrap_in (by omega) (by omega)⟩
        obtain ⟨z4, hz4, gz4⟩ : ∃ z : Int, z = uI - vI ∧ IntKind.i64.wrap (uI - vI) = z := ⟨_, rfl, by have := HBu.out; exact wrap_in (by omega) (by omega)⟩
        obtain ⟨z3, hz3, gz3⟩ : ∃ z : Int, z = ne * z4 ∧ IntKind.i64.wrap (ne * z4) = z := ⟨_, rfl, by have := mulH (q := z4) (by have := HBu.out; omega) (by have := HBu.out; omega) HX.out.1; exact wrap_in (by omega) (by omega)⟩
        obtain ⟨z5, hz5, gz5⟩ : ∃ z : Int, z = se * vI ∧ IntKind.i64.wrap (se * vI) = z := ⟨_, rfl, by have := mulH (q := vI) (by have := HBu.out; omega) (by have := HBu.out; omega) HX.out.2.2; exact wrap_in (by omega) (by omega)⟩
        have q1 := mulH (q := z1) (by have := HBu.out; omega) (by have := HBu.out; omega) HNW.out
        have q2 := mulH (q := z4) (by have := HBu.out; omega) (by have := HBu.out; omega) HX.out.1
        have q3 := mulH (q := vI) (by have := HBu.out; omega) (by have := HBu.out; omega) HX.out.2.2
        rw [← hz2] at q1
        rw [← hz3] at q2
        rw [← hz5] at q3
        obtain ⟨z6, hz6, gz6⟩ : ∃ z : Int, z = z2 + z3 ∧ IntKind.i64.wrap (z2 + z3) = z := ⟨_, rfl, by skip; exact wrap_in (by omega) (by omega)⟩
        obtain ⟨G, hG, gG⟩ : ∃ z : Int, z = z6 + z5 ∧ IntKind.i64.wrap (z6 + z5) = z := ⟨_, rfl, by skip; exact wrap_in (by omega) (by omega)⟩
        have hGR : G = R := by rw [hG, hR3, hz6, hz2, hz3, hz5, hz1, hz4]
        rw [hGR] at gG
        clear hG hGR hR3 hz1 hz2 hz3 hz4 hz5 hz6 q1 q2 q3
        go_upto_region 18 with fail
        go_quiet (fail)
        go_wp2
        go_ret
        exact ⟨rfl, E.out.gr.drewN _⟩
      · have hR3 := HR2.out
        rw [riseP_e (by omega)] at hR3
        have cx := HC5.out _ E.out.gr
        obtain ⟨z1, hz1, gz1⟩ : ∃ z : Int, z = pI - vI ∧ IntKind.i64.wrap (pI - vI) = z := ⟨_, rfl, by have := HBu.out; exact wrap_in (by omega) (by omega)⟩
        obtain ⟨z2, hz2, gz2⟩ : ∃ z : Int, z = nw * z1 ∧ IntKind.i64.wrap (nw * z1) = z := ⟨_, rfl, by have := mulH (q := z1) (by have := HBu.out; omega) (by have := HBu.out; omega) HNW.out; exact wrap_in (by omega) (by omega)⟩
        obtain ⟨z4, hz4, gz4⟩ : ∃ z : Int, z = vI - uI ∧ IntKind.i64.wrap (vI - uI) = z := ⟨_, rfl, by have := HBu.out; exact wrap_in (by omega) (by omega)⟩
        obtain ⟨z3, hz3, gz3⟩ : ∃ z : Int, z = sw * z4 ∧ IntKind.i64.wrap (sw * z4) = z := ⟨_, rfl, by have := mulH (q := z4) (by have := HBu.out; omega) (by have := HBu.out; omega) HX.out.2.1; exact wrap_in (by omega) (by omega)⟩
        obtain ⟨z5, hz5, gz5⟩ : ∃ z : Int, z = se * uI ∧ IntKind.i64.wrap (se * uI) = z := ⟨_, rfl, by have := mulH (q := uI) (by have := HBu.out; omega) (by have := HBu.out; omega) HX.out.2.2; exact wrap_in (by omega) (by omega)⟩
        have q1 := mulH (q := z1) (by have := HBu.out; omega) (by have := HBu.out; omega) HNW.out
        have q2 := mulH (q := z4) (by have := HBu.out; omega) (by have := HBu.out; omega) HX.out.2.1
        have q3 := mulH (q := uI) (by have := HBu.out; omega) (by have := HBu.out; omega) HX.out.2.2
        rw [← hz2] at q1
        rw [← hz3] at q2
        rw [← hz5] at q3
        obtain ⟨z6, hz6, gz6⟩ : ∃ z : Int, z = z2 + z3 ∧ IntKind.i64.wrap (z2 + z3) = z := ⟨_, rfl, by skip; exact wrap_in (by omega) (by omega)⟩
        obtain ⟨G, hG, gG⟩ : ∃ z : Int, z = z6 + z5 ∧ IntKind.i64.wrap (z6 + z5) = z := ⟨_, rfl, by skip; exact wrap_in (by omega) (by omega)⟩
        have hGR : G = R := by rw [hG, hR3, hz6, hz2, hz3, hz5, hz1, hz4]
        rw [hGR] at gG
        clear hG hGR hR3 hz1 hz2 hz3 hz4 hz5 hz6 q1 q2 q3
        go_upto_region 19 with fail
        go_quiet (fail)
        go_wp2
        go_ret
        exact ⟨rfl, E.out.gr.drewN _⟩
end Go.Proofs.YtpdiefmmenfpaaaDoor
