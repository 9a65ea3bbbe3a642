/-
  sight.lineOf.
-/
import Derived.Test.YtpdiefmmenfpaaaDoorQSiC
import Derived.Deep.DrawnRows
namespace Go.Proofs.YtpdiefmmenfpaaaDoor
open Go.RowKit
attribute [local go_sem ↓] Go.wp_at_zero Go.wp_at_succ

/-- Three boxes of lineOf, and the two cells that it reads. -/
structure KL (w W : World) (B : Nat) (k0 k1 k2 : List Value) (b i j : Nat) (x y : Int) : Prop where
  a0 : At W B k0
  a1 : At W (B + 1) k1
  a2 : At W (B + 1 + 1) k2
  gr : Gr w W
  c : W.cell? ⟨b, i, none⟩ = some (.int .i64 x) ∧ W.cell? ⟨b, j, none⟩ = some (.int .i64 y)
  lt : b < B
theorem KL.drewN {w W : World} {B : Nat} {k0 k1 k2 : List Value} {b i j : Nat} {x y : Int} (h : KL w W B k0 k1 k2 b i j x y) {n : Nat} {W' : World} (e : World.drewN W n = W') : KL w W' B k0 k1 k2 b i j x y := by
  subst e
  exact ⟨h.a0.drewN n, h.a1.drewN n, h.a2.drewN n, h.gr.drewN n, h.c, h.lt⟩
theorem KL.drew {w W : World} {B : Nat} {k0 k1 k2 : List Value} {b i j : Nat} {x y : Int} (h : KL w W B k0 k1 k2 b i j x y) : KL w W.drew B k0 k1 k2 b i j x y := ⟨h.a0, h.a1, h.a2, h.gr.drew, h.c, h.lt⟩
theorem KL.all {w W : World} {B : Nat} {m n s f t e u : Value} {k2 : List Value} {b i j : Nat} {x y : Int} (h : KL w W B [m, n, s] [f, t, e, u] k2 b i j x y) : (W.cell? ⟨B, 0, none⟩ = some m ∧ W.cell? ⟨B, 1, none⟩ = some n ∧ W.cell? ⟨B, 2, none⟩ = some s) ∧ (W.cell? ⟨B + 1, 0, none⟩ = some f ∧ W.cell? ⟨B + 1, 1, none⟩ = some t ∧ W.cell? ⟨B + 1, 2, none⟩ = some e ∧ W.cell? ⟨B + 1, 3, none⟩ = some u) ∧ W.cell? ⟨b, i, none⟩ = some (.int .i64 x) ∧ W.cell? ⟨b, j, none⟩ = some (.int .i64 y) := ⟨h.a0.c3, h.a1.c4, h.c⟩
theorem KL.put {w W : World} {B : Nat} {k0 k1 k2 : List Value} {b i j : Nat} {x y : Int} (h : KL w W B k0 k1 k2 b i j x y) (hB : w.heap.size ≤ B) (o : Nat) (v : Value) : KL w (W.setCell ⟨B + 1 + 1, o, none⟩ v) B k0 k1 (k2.set o v) b i j x y := by
  have h1 := h.lt
  refine ⟨h.a0.skip (by omega) _ _, h.a1.skip (by omega) _ _, h.a2.put o v, h.gr.set (by omega) _ _, ⟨?_, ?_⟩, h.lt⟩
  · have hb : ¬ b = B + 1 + 1 := by omega
    simp [go_sem, h.c.1]
  · have hb : ¬ b = B + 1 + 1 := by omega
    simp [go_sem, h.c.2]
theorem KL.fill {w W : World} {B : Nat} {k0 k1 : List Value} {p0 p1 p2 p3 p4 p5 p6 p7 p8 : Value} {b i j : Nat} {x y : Int} (h : KL w W B k0 k1 [p0, p1, p2, p3, p4, p5, p6, p7, p8] b i j x y) (hB : w.heap.size ≤ B) (a0 a1 a2 a3 a4 a5 a6 a7 a8 : Value) : KL w (((((((((W.setCell ⟨B + 1 + 1, 0, none⟩ a0).setCell ⟨B + 1 + 1, 1, none⟩ a1).setCell ⟨B + 1 + 1, 2, none⟩ a2).setCell ⟨B + 1 + 1, 3, none⟩ a3).setCell ⟨B + 1 + 1, 4, none⟩ a4).setCell ⟨B + 1 + 1, 5, none⟩ a5).setCell ⟨B + 1 + 1, 6, none⟩ a6).setCell ⟨B + 1 + 1, 7, none⟩ a7).setCell ⟨B + 1 + 1, 8, none⟩ a8) B k0 k1 [a0, a1, a2, a3, a4, a5, a6, a7, a8] b i j x y :=
  ((((((((h.put hB 0 a0).put hB 1 a1).put hB 2 a2).put hB 3 a3).put hB 4 a4).put hB 5 a5).put hB 6 a6).put hB 7 a7).put hB 8 a8
set_option maxRecDepth 4000 in
set_option maxHeartbeats 8000000 in
theorem lineOf_any {m n b o cap f t : Nat} {l : List Int} (e u : Int) (w : World) (h : Rs w b o cap l) (ok : Ok l m n) (hf : f < l.length) (ht : t < l.length) (he : 0 ≤ e ∧ e ≤ 1048576) (hu : 0 ≤ u ∧ u ≤ 1048576) : Calls Tryd.prog 38 #[raV m n (.slice (some ⟨b, o, none⟩) l.length cap), loV (f : Int) (t : Int) e u] w fun ee w' => ee = .returned (lnV m n (.slice (some ⟨b, o, none⟩) l.length cap) ((f % m : Nat) : Int) ((f / m : Nat) : Int) (((t % m : Nat) : Int) - ((f % m : Nat) : Int)) (((t / m : Nat) : Int) - ((f / m : Nat) : Int)) (gl l f + e) (gl l t + u)) ∧ Gr w w' := by
  have hlen := ok.len_le
  have hm1 := ok.m1
  have b1 := ok.hi f
  have b2 := ok.hi t
  unfold hiI at b1 b2
  have cf := (h.below (((((Gr.refl w).alloc (.cells #[.int .i64 m, .int .i64 n, .slice (some ⟨b, o, none⟩) l.length cap] 35)).alloc (.cells #[.int .i64 (f : Int), .int .i64 (t : Int), .int .i64 e, .int .i64 u] 50)).alloc (.cells #[.int .i64 0, .int .i64 0, .slice none 0 0, .int .i64 0, .int .i64 0, .int .i64 0, .int .i64 0, .int .i64 0, .int .i64 0] 78)).out)).get hf
  have ct := (h.below (((((Gr.refl w).alloc (.cells #[.int .i64 m, .int .i64 n, .slice (some ⟨b, o, none⟩) l.length cap] 35)).alloc (.cells #[.int .i64 (f : Int), .int .i64 (t : Int), .int .i64 e, .int .i64 u] 50)).alloc (.cells #[.int .i64 0, .int .i64 0, .slice none 0 0, .int .i64 0, .int .i64 0, .int .i64 0, .int .i64 0, .int .i64 0, .int .i64 0] 78)).out)).get ht
  have IF := iindex b o l.length cap f hf
  have IT := iindex b o l.length cap t ht
  obtain ⟨fI, hfI⟩ : ∃ z : Int, z = (f : Int) := ⟨_, rfl⟩
  obtain ⟨tI, htI⟩ : ∃ z : Int, z = (t : Int) := ⟨_, rfl⟩
  obtain ⟨mI, hmI⟩ : ∃ z : Int, z = (m : Int) := ⟨_, rfl⟩
  have dm1 : f % m < m := Nat.mod_lt _ hm1
  have dm2 : t % m < m := Nat.mod_lt _ hm1
  have dd1 : f / m ≤ f := Nat.div_le_self _ _
  have dd2 : t / m ≤ t := Nat.div_le_self _ _
  have hm2 := ok.m2
  obtain ⟨t1, t2, t3, t4⟩ := nat_q hfI hmI (by omega)
  obtain ⟨t5, t6, t7, t8⟩ := nat_q htI hmI (by omega)
  obtain ⟨q1, hq1⟩ : ∃ z : Int, z = ((f % m : Nat) : Int) := ⟨_, rfl⟩
  obtain ⟨q2, hq2⟩ : ∃ z : Int, z = ((f / m : Nat) : Int) := ⟨_, rfl⟩
  obtain ⟨q3, hq3⟩ : ∃ z : Int, z = ((t % m : Nat) : Int) := ⟨_, rfl⟩
  obtain ⟨q4, hq4⟩ : ∃ z : Int, z = ((t / m : Nat) : Int) := ⟨_, rfl⟩
  have k2 : 0 ≤ q2 ∧ q2 ≤ 20000 := ⟨by rw [hq2]; exact Int.natCast_nonneg _, by rw [hq2]; have h20 : f / m ≤ 20000 := Nat.le_trans dd1 (by omega); exact Int.ofNat_le.2 h20⟩
  have k4 : 0 ≤ q4 ∧ q4 ≤ 20000 := ⟨by rw [hq4]; exact Int.natCast_nonneg _, by rw [hq4]; have h20 : t / m ≤ 20000 := Nat.le_trans dd2 (by omega); exact Int.ofNat_le.2 h20⟩
  rw [← hq2] at t1 t3
  rw [← hq1] at t2 t4
  rw [← hq4] at t5 t7
  rw [← hq3] at t6 t8
  rw [← hq1, ← hq2, ← hq3, ← hq4]
  obtain ⟨q5, hq5, e1⟩ : ∃ z : Int, z = q3 - q1 ∧ IntKind.i64.wrap (q3 - q1) = z := ⟨_, rfl, wrap_in (by omega) (by omega)⟩
  obtain ⟨q6, hq6, e2⟩ : ∃ z : Int, z = q4 - q2 ∧ IntKind.i64.wrap (q4 - q2) = z := ⟨_, rfl, wrap_in (by omega) (by omega)⟩
  rw [← hq5, ← hq6]
  generalize gl l f = x at *
  generalize gl l t = y at *
  obtain ⟨q7, hq7, e3⟩ : ∃ z : Int, z = x + e ∧ IntKind.i64.wrap (x + e) = z := ⟨_, rfl, wrap_in (by omega) (by omega)⟩
  obtain ⟨q8, hq8, e4⟩ : ∃ z : Int, z = y + u ∧ IntKind.i64.wrap (y + u) = z := ⟨_, rfl, wrap_in (by omega) (by omega)⟩
  rw [← hq7, ← hq8]
  have hm0 : ¬ mI = 0 := by omega
  have F := hidb (show KL w (((w.alloc (.cells #[.int .i64 m, .int .i64 n, .slice (some ⟨b, o, none⟩) l.length cap] 35)).alloc (.cells #[.int .i64 (f : Int), .int .i64 (t : Int), .int .i64 e, .int .i64 u] 50)).alloc (.cells #[.int .i64 0, .int .i64 0, .slice none 0 0, .int .i64 0, .int .i64 0, .int .i64 0, .int .i64 0, .int .i64 0, .int .i64 0] 78)) w.heap.size [.int .i64 m, .int .i64 n, .slice (some ⟨b, o, none⟩) l.length cap] [.int .i64 (f : Int), .int .i64 (t : Int), .int .i64 e, .int .i64 u] [.int .i64 0, .int .i64 0, .slice none 0 0, .int .i64 0, .int .i64 0, .int .i64 0, .int .i64 0, .int .i64 0, .int .i64 0] b (o + f) (o + t) x y from
    ⟨((At.new3 w _ _ _ _).alloc _).alloc _, (At.nx4 _ _ _ _ _ _).alloc _, by
      have := At.newRow ((w.alloc (.cells #[.int .i64 m, .int .i64 n, .slice (some ⟨b, o, none⟩) l.length cap] 35)).alloc (.cells #[.int .i64 (f : Int), .int .i64 (t : Int), .int .i64 e, .int .i64 u] 50)) [.int .i64 0, .int .i64 0, .slice none 0 0, .int .i64 0, .int .i64 0, .int .i64 0, .int .i64 0, .int .i64 0, .int .i64 0] 78
      simpa using this, (((Gr.refl w).alloc _).alloc _).alloc _, ⟨cf, ct⟩, h.lt⟩)
  rw [← hmI, ← hfI, ← htI] at F
  rw [← hfI] at IF
  rw [← htI] at IT
  show Calls Tryd.prog 38 #[.agg #[.int .i64 (m : Int), .int .i64 (n : Int), .slice (some ⟨b, o, none⟩) l.length cap], .agg #[.int .i64 (f : Int), .int .i64 (t : Int), .int .i64 e, .int .i64 u]] w (fun ee w' => ee = .returned (.agg #[.int .i64 (m : Int), .int .i64 (n : Int), .slice (some ⟨b, o, none⟩) l.length cap, .int .i64 q1, .int .i64 q2, .int .i64 q5, .int .i64 q6, .int .i64 q7, .int .i64 q8]) ∧ Gr w w')
  rw [← hmI, ← hfI, ← htI]
  generalize l.length = N at *
  clear k2 k4 hlen hm1 b1 b2 cf ct hfI htI hmI dm1 dm2 dd1 dd2 hm2 hq1 hq2 hq3 hq4 hq5 hq6 hq7 hq8 h ok hf ht he hu
  go_enter Tryd.func38, Tryd.ntmps38
  go_upto_region 1 with fail
  generalize ((w.alloc (.cells #[.int .i64 mI, .int .i64 (n : Int), .slice (some ⟨b, o, none⟩) N cap] 35)).alloc (.cells #[.int .i64 fI, .int .i64 tI, .int .i64 e, .int .i64 u] 50)).alloc (.cells #[.int .i64 0, .int .i64 0, .slice none 0 0, .int .i64 0, .int .i64 0, .int .i64 0, .int .i64 0, .int .i64 0, .int .i64 0] 78) = w1 at *
  obtain ⟨z0, z1, z2⟩ := F.out.a0.c3
  obtain ⟨r0, r1, r2, r3⟩ := F.out.a1.c4
  go_quiet (fail)
  go_upto_region 2 with fail
  clear z0 z1 z2 r0 r1 r2 r3
  generalize hw2 : World.drewN w1 _ = w2
  replace F := hidb (F.out.drewN hw2)
  clear hw2
  have E := F.out
  obtain ⟨s0, s1, s2, s3, s4, s5, s6, s7, s8⟩ := E.a2.c9
  obtain ⟨f0, f1, f2, f3, f4, f5, f6, f7, f8⟩ := E.a2.f9
  have hge : w.heap.size ≤ w.heap.size := Nat.le_refl _
  clear F
  go_region_held (fun w' => (w'.cell? ⟨w.heap.size, 0, none⟩ = some (.int .i64 mI) ∧ w'.cell? ⟨w.heap.size, 1, none⟩ = some (.int .i64 (n : Int)) ∧ w'.cell? ⟨w.heap.size, 2, none⟩ = some (.slice (some ⟨b, o, none⟩) N cap)) ∧ (w'.cell? ⟨w.heap.size + 1, 0, none⟩ = some (.int .i64 fI) ∧ w'.cell? ⟨w.heap.size + 1, 1, none⟩ = some (.int .i64 tI) ∧ w'.cell? ⟨w.heap.size + 1, 2, none⟩ = some (.int .i64 e) ∧ w'.cell? ⟨w.heap.size + 1, 3, none⟩ = some (.int .i64 u)) ∧ w'.cell? ⟨b, o + f, none⟩ = some (.int .i64 x) ∧ w'.cell? ⟨b, o + t, none⟩ = some (.int .i64 y))
    (with_reducible first | exact E.all | exact E.drew.all | exact (E.fill hge _ _ _ _ _ _ _ _ _).all | exact (E.fill hge _ _ _ _ _ _ _ _ _).drew.all | exact (E.drew.fill hge _ _ _ _ _ _ _ _ _).all)
    (fail)
  go_wp2_with fail
  all_goals
    refine bodyPost_ret (v := .agg #[.int .i64 mI, .int .i64 (n : Int), .slice (some ⟨b, o, none⟩) N cap, .int .i64 q1, .int .i64 q2, .int .i64 q5, .int .i64 q6, .int .i64 q7, .int .i64 q8]) (by simp [results, Tryd.results38, go_sem, s0, s1, s2, s3, s4, s5, s6, s7, s8]) rfl ⟨rfl, ?_⟩
    with_reducible first | exact (E.fill hge _ _ _ _ _ _ _ _ _).gr | exact (E.fill hge _ _ _ _ _ _ _ _ _).gr.drew | exact (E.drew.fill hge _ _ _ _ _ _ _ _ _).gr
end Go.Proofs.YtpdiefmmenfpaaaDoor
