/-
  relief.squareOf, square.at.
-/
import Derived.Test.YtpdiefmmenfpaaaDoorQRlA
namespace Go.Proofs.YtpdiefmmenfpaaaDoor
open Go.RowKit

theorem At.nx4 {W : World} (o : Obj) (a b c d : Value) (t : Nat) : At ((W.alloc o).alloc (.cells #[a, b, c, d] t)) (W.heap.size + 1) [a, b, c, d] := by
  have := At.new4 (W.alloc o) a b c d t
  simpa using this
theorem At.f4 {W : World} {B : Nat} {a b c d : Value} (h : At W B [a, b, c, d]) : W.frozen? ⟨B, 0, none⟩ = false ∧ W.frozen? ⟨B, 1, none⟩ = false ∧ W.frozen? ⟨B, 2, none⟩ = false ∧ W.frozen? ⟨B, 3, none⟩ = false := ⟨(h.1 0 (by simp)).2, (h.1 1 (by simp)).2, (h.1 2 (by simp)).2, (h.1 3 (by simp)).2⟩
/-- Two blocks of a call's own, and cells that it reads. -/
structure SqF (w W : World) (B D : Nat) (k0 k1 : List Value) (b : Nat) (cs : List (Nat × Int)) : Prop where
  a0 : At W B k0
  a1 : At W D k1
  gr : Gr w W
  blt : b < w.heap.size
  cl : ∀ p ∈ cs, W.cell? ⟨b, p.1, none⟩ = some (.int .i64 p.2)
theorem SqF.drewN {w W : World} {B D : Nat} {k0 k1 : List Value} {b : Nat} {cs : List (Nat × Int)} (h : SqF w W B D k0 k1 b cs) {n : Nat} {W' : World} (e : World.drewN W n = W') : SqF w W' B D k0 k1 b cs := by
  subst e
  exact ⟨h.a0.drewN n, h.a1.drewN n, h.gr.drewN n, h.blt, h.cl⟩
theorem keep44 {W : World} {b D : Nat} {i1 i2 i3 i4 : Nat} {v1 v2 v3 v4 y1 y2 y3 y4 : Value} (hb : ¬ D = b) (h1 : W.cell? ⟨b, i1, none⟩ = some v1) (h2 : W.cell? ⟨b, i2, none⟩ = some v2) (h3 : W.cell? ⟨b, i3, none⟩ = some v3) (h4 : W.cell? ⟨b, i4, none⟩ = some v4) :
    ((((W.setCell ⟨D, 0, none⟩ y1).setCell ⟨D, 1, none⟩ y2).setCell ⟨D, 2, none⟩ y3).setCell ⟨D, 3, none⟩ y4).cell? ⟨b, i1, none⟩ = some v1 ∧ ((((W.setCell ⟨D, 0, none⟩ y1).setCell ⟨D, 1, none⟩ y2).setCell ⟨D, 2, none⟩ y3).setCell ⟨D, 3, none⟩ y4).cell? ⟨b, i2, none⟩ = some v2 ∧ ((((W.setCell ⟨D, 0, none⟩ y1).setCell ⟨D, 1, none⟩ y2).setCell ⟨D, 2, none⟩ y3).setCell ⟨D, 3, none⟩ y4).cell? ⟨b, i3, none⟩ = some v3 ∧ ((((W.setCell ⟨D, 0, none⟩ y1).setCell ⟨D, 1, none⟩ y2).setCell ⟨D, 2, none⟩ y3).setCell ⟨D, 3, none⟩ y4).cell? ⟨b, i4, none⟩ = some v4 := by
  have hb' : ¬ b = D := fun e => hb e.symm
  simp [go_sem, h1, h2, h3, h4]
set_option maxRecDepth 4000 in
set_option maxHeartbeats 4000000 in
theorem squareOf_any {b o cap c r m n : Nat} {l : List Int} (w : World) (h : Rs w b o cap l) (ok : Ok l m n) (hc : c < m) (hr : r < n) : Calls Tryd.prog 71 #[raV m n (.slice (some ⟨b, o, none⟩) l.length cap), .int .i64 (c : Int), .int .i64 (r : Int)] w fun e w' => e = .returned (sqV (gl l (r * m + c)) (gl l (r * m + min (c + 1) (m - 1))) (gl l (min (r + 1) (n - 1) * m + c)) (gl l (min (r + 1) (n - 1) * m + min (c + 1) (m - 1)))) ∧ Gr w w' := by
  have hm1 := ok.m1
  have hn1 := ok.n1
  have hm2 := ok.m2
  have hn2 := ok.n2
  obtain ⟨ea, hea⟩ : ∃ ea, ea = min (c + 1) (m - 1) := ⟨_, rfl⟩
  obtain ⟨so, hso⟩ : ∃ so, so = min (r + 1) (n - 1) := ⟨_, rfl⟩
  rw [← hea, ← hso]
  have la : ea < m := by omega
  have lb : so < n := by omega
  have i1 := ok.cell hc hr
  have i2 := ok.cell la hr
  have i3 := ok.cell hc lb
  have i4 := ok.cell la lb
  have ll := ok.len_le
  obtain ⟨k1, hk1⟩ : ∃ k, k = r * m := ⟨_, rfl⟩
  obtain ⟨k2, hk2⟩ : ∃ k, k = so * m := ⟨_, rfl⟩
  have z1 : IntKind.i64.wrap ((r : Int) * (m : Int)) = (k1 : Int) := by rw [hk1, ← Int.natCast_mul]; exact wrap_in (by omega) (by omega)
  have z2 : IntKind.i64.wrap ((so : Int) * (m : Int)) = (k2 : Int) := by rw [hk2, ← Int.natCast_mul]; exact wrap_in (by omega) (by omega)
  rw [← hk1] at i1 i2 ⊢
  rw [← hk2] at i3 i4 ⊢
  have hcap := h.cap
  have G0 := hidb (((Gr.refl w).alloc (.cells #[.int .i64 m, .int .i64 n, .slice (some ⟨b, o, none⟩) l.length cap] 35)).alloc (.cells #[.int .i64 0, .int .i64 0, .int .i64 0, .int .i64 0] 117))
  have A0 := hidb ((At.new3 w (.int .i64 m) (.int .i64 n) (.slice (some ⟨b, o, none⟩) l.length cap) 35).alloc (.cells #[.int .i64 0, .int .i64 0, .int .i64 0, .int .i64 0] 117))
  have A1 := hidb (At.nx4 (W := w) (.cells #[.int .i64 m, .int .i64 n, .slice (some ⟨b, o, none⟩) l.length cap] 35) (.int .i64 0) (.int .i64 0) (.int .i64 0) (.int .i64 0) 117)
  have F := hidb (show SqF w _ _ _ _ _ b [(o + k1 + c, gl l (k1 + c)), (o + k1 + ea, gl l (k1 + ea)), (o + k2 + c, gl l (k2 + c)), (o + k2 + ea, gl l (k2 + ea))] from ⟨A0.out, A1.out, G0.out, h.lt, by
    have hb := h.below G0.out.out
    intro p hp
    simp only [List.mem_cons, List.not_mem_nil, or_false] at hp
    rcases hp with rfl | rfl | rfl | rfl <;> (rw [Nat.add_assoc]; first | exact hb.get i1 | exact hb.get i2 | exact hb.get i3 | exact hb.get i4)⟩)
  clear A0 A1 G0
  have S1 := islice b o l.length cap k1 (by omega) hcap
  have S2 := islice b o l.length cap k2 (by omega) hcap
  have I1 := iindex b (o + k1) (l.length - k1) (cap - k1) c (by omega)
  have I2 := iindex b (o + k1) (l.length - k1) (cap - k1) ea (by omega)
  have I3 := iindex b (o + k2) (l.length - k2) (cap - k2) c (by omega)
  have I4 := iindex b (o + k2) (l.length - k2) (cap - k2) ea (by omega)
  generalize gl l (k1 + c) = x1 at *
  generalize gl l (k1 + ea) = x2 at *
  generalize gl l (k2 + c) = x3 at *
  generalize gl l (k2 + ea) = x4 at *
  generalize l.length - k1 = p1 at *
  generalize l.length - k2 = p2 at *
  generalize cap - k1 = q1 at *
  generalize cap - k2 = q2 at *
  generalize o + k1 = o1 at *
  generalize o + k2 = o2 at *
  obtain ⟨c1, hc1, e1⟩ : ∃ x : Int, x = (c : Int) + 1 ∧ IntKind.i64.wrap ((c : Int) + 1) = x := ⟨_, rfl, wrap_in (by omega) (by omega)⟩
  obtain ⟨m1, hm1', e2⟩ : ∃ x : Int, x = (m : Int) - 1 ∧ IntKind.i64.wrap ((m : Int) - 1) = x := ⟨_, rfl, wrap_in (by omega) (by omega)⟩
  obtain ⟨r1, hr1, e3⟩ : ∃ x : Int, x = (r : Int) + 1 ∧ IntKind.i64.wrap ((r : Int) + 1) = x := ⟨_, rfl, wrap_in (by omega) (by omega)⟩
  obtain ⟨n1, hn1', e4⟩ : ∃ x : Int, x = (n : Int) - 1 ∧ IntKind.i64.wrap ((n : Int) - 1) = x := ⟨_, rfl, wrap_in (by omega) (by omega)⟩
  have e5 : (if m1 < c1 then m1 else c1) = (ea : Int) := by split <;> omega
  have e6 : (if n1 < r1 then n1 else r1) = (so : Int) := by split <;> omega
  clear hm1 hn1 hm2 hn2 hea hso la lb i1 i2 i3 i4 ll hk1 hk2 hc1 hm1' hr1 hn1' h ok hc hr hcap
  generalize l.length = ln at *
  go_enter Tryd.func71, Tryd.ntmps71
  go_upto_region 1 with fail
  have hsz : ¬ w.heap.size = w.heap.size + 1 := by omega
  generalize (w.alloc (.cells #[.int .i64 m, .int .i64 n, .slice (some ⟨b, o, none⟩) ln cap] 35)).alloc (.cells #[.int .i64 0, .int .i64 0, .int .i64 0, .int .i64 0] 117) = w1 at *
  obtain ⟨a0, a1, a2⟩ := F.out.a0.c3
  go_quiet (fail)
  go_upto_region 2 with fail
  clear a0 a1 a2
  generalize hw2 : World.drewN w1 _ = w2
  replace F := hidb (F.out.drewN hw2)
  clear hw2
  obtain ⟨a0, a1, a2⟩ := F.out.a0.c3
  go_quiet (fail)
  go_upto_region 3 with fail
  clear a0 a1 a2
  generalize hw3 : World.drewN w2 _ = w3
  replace F := hidb (F.out.drewN hw3)
  clear hw3
  have C1 := F.out.cl _ (.head _)
  have C2 := F.out.cl _ (.tail _ (.head _))
  have C3 := F.out.cl _ (.tail _ (.tail _ (.head _)))
  have C4 := F.out.cl _ (.tail _ (.tail _ (.tail _ (.head _))))
  obtain ⟨s0, s1, s2, s3⟩ := F.out.a1.c4
  obtain ⟨f0, f1, f2, f3⟩ := F.out.a1.f4
  have hbw : ¬ b = w.heap.size + 1 := by have := F.out.blt; omega
  have hbw' : ¬ w.heap.size + 1 = b := fun e => hbw e.symm
  go_region_held (fun w' => w'.cell? ⟨b, o1 + c, none⟩ = some (.int .i64 x1) ∧ w'.cell? ⟨b, o1 + ea, none⟩ = some (.int .i64 x2) ∧ w'.cell? ⟨b, o2 + c, none⟩ = some (.int .i64 x3) ∧ w'.cell? ⟨b, o2 + ea, none⟩ = some (.int .i64 x4))
    (first | exact ⟨C1, C2, C3, C4⟩ | exact keep44 hbw' C1 C2 C3 C4)
    (fail)
  go_wp2_with fail
  all_goals
    refine bodyPost_ret (v := sqV x1 x2 x3 x4) (by simp [results, Tryd.results71, go_sem, s0, s1, s2, s3]) rfl ⟨rfl, ?_⟩
    have hge : w.heap.size ≤ w.heap.size + 1 := by omega
    first | exact (((F.out.gr.set hge _ _).set hge _ _).set hge _ _).set hge _ _ | exact ((((F.out.gr.set hge _ _).set hge _ _).set hge _ _).set hge _ _).drew | exact (((F.out.gr.drew.set hge _ _).set hge _ _).set hge _ _).set hge _ _
theorem mul_bd {x a b : Int} (x0 : 0 ≤ x) (x1 : x < 256) (ha : hiI a) (hb : hiI b) : -536870912 ≤ x * (a - b) ∧ x * (a - b) ≤ 536870912 := by
  obtain ⟨a1, a2⟩ := ha
  obtain ⟨b1, b2⟩ := hb
  have h1 : x * (a - b) ≤ x * 2097152 := Int.mul_le_mul_of_nonneg_left (by omega) x0
  have h2 : x * (-2097152) ≤ x * (a - b) := Int.mul_le_mul_of_nonneg_left (by omega) x0
  omega
/-- The height at a point of a square, over 256. -/
def frN (z : Int) : Int := if (decide (z < 0) != decide ((256 : Int) < 0)) = true then -(rn z.natAbs 256 : Int) else rn z.natAbs 256
def frD (z : Int) : Int := rd z.natAbs 256
abbrev frE (z : Int) : Value := .agg #[.int .i64 (frN z), .int .i64 (frD z)]
theorem rise_bd {a b c d u v : Int} (ha : hiI a) (hb : hiI b) (hc : hiI c) (hd : hiI d) (u0 : 0 ≤ u) (u1 : u < 256) (v0 : 0 ≤ v) (v1 : v < 256) : -4294967296 ≤ rise a b c d u v ∧ rise a b c d u v ≤ 4294967296 := by
  have p1 := mul_bd (x := u) u0 u1 hb ha
  have p2 := mul_bd (x := v) v0 v1 hd hb
  have p3 := mul_bd (x := v) v0 v1 hc ha
  have p4 := mul_bd (x := u) u0 u1 hd hc
  obtain ⟨a1, a2⟩ := ha
  unfold rise
  split <;> omega
end Go.Proofs.YtpdiefmmenfpaaaDoor
