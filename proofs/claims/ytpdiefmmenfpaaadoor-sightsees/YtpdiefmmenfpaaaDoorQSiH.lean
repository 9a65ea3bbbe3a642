/-
  sight.Sees, Need.
-/
import Derived.Test.YtpdiefmmenfpaaaDoorQSiG
namespace Go.Proofs.YtpdiefmmenfpaaaDoor
open Go.RowKit
attribute [local go_sem ↓] Go.wp_at_zero Go.wp_at_succ

/-- Is a cell seen? What is needed to be seen. -/
def seeP (l : List Int) (m n f t : Nat) (e u : Int) : Prop := frK l m n (f % m) (f / m) (t % m) (t / m) (gl l f + e) (gl l t + u)
instance (l : List Int) (m n f t : Nat) (e u : Int) : Decidable (seeP l m n f t e u) := by unfold seeP; infer_instance
def nedS (l : List Int) (m n f t : Nat) (e : Int) : Int × Nat := ndK (lkK l m n (f % m) (f / m) (t % m) (t / m) (gl l f + e) (gl l t)) (sts (f % m) (f / m) (t % m) (t / m))
theorem Ok.div {l : List Int} {m n f : Nat} (ok : Ok l m n) (hf : f < l.length) : f % m < m ∧ f / m < n := by
  rw [ok.len] at hf
  exact ⟨Nat.mod_lt _ ok.m1, Nat.div_lt_of_lt_mul hf⟩
theorem hiE_add {a b : Int} (h : hiI a) (h0 : 0 ≤ b) (h1 : b ≤ 1048576) : hiE (a + b) := by unfold hiI at h; unfold hiE; omega
theorem loB_yes {N : Nat} {f t e u : Int} (h : loB N f t e u = true) : ((0 ≤ f ∧ f < N) ∧ (0 ≤ t ∧ t < N)) ∧ (0 ≤ e ∧ e ≤ 1048576) ∧ 0 ≤ u ∧ u ≤ 1048576 := by
  unfold loB inI at h
  simp only [Bool.and_eq_true, decide_eq_true_eq] at h
  omega
set_option maxRecDepth 4000 in
set_option maxHeartbeats 4000000 in
theorem sees_no (g : Nat → Addr) {W H : Int} {ad : Option Addr} {b o cap : Nat} {l : List Int} (f t e u : Int) (w : World) (h : ISl w ad b o cap l) (ll : l.length ≤ 20000) (hl : Lai w g) (hv : ¬ vcode W H l = 0) : Calls Tryd.prog 18 #[raV W H (.slice ad l.length cap), loV f t e u] w fun e w' => e = .returned (.tuple #[.bool false, errV g (vcode W H l - 1)]) ∧ Gr w w' := by
  have F := hidb (KG.new w (.int .i64 W) (.int .i64 H) (.slice ad l.length cap) (.int .i64 f) (.int .i64 t) (.int .i64 e) (.int .i64 u) 35 50)
  have C1 := hidb (right_no g f t e u _ (h.below F.out.gr.out) ll (hl.below F.out.gr.out) hv)
  generalize vcode W H l - 1 = ei at *
  clear h ll hl hv
  go_enter Tryd.func18, Tryd.ntmps18
  obtain ⟨q0, q1, q2⟩ := F.out.a0.c3
  obtain ⟨r0, r1, r2, r3⟩ := F.out.a1.c4
  go_wp2_with fail
  refine C1.out.mono ?_
  rintro ee w1 ⟨rfl, hB⟩
  have G := hidb (Gr.step F.out.gr hB.out)
  clear hB F q0 q1 q2 C1 r0 r1 r2 r3
  go_wp2
  go_ret2
  exact ⟨rfl, G.out⟩
set_option maxRecDepth 4000 in
set_option maxHeartbeats 4000000 in
theorem sees_bad (g : Nat → Addr) {m n b o cap : Nat} {l : List Int} (f t e u : Int) (w : World) (h : Rs w b o cap l) (ok : Ok l m n) (hv : vcode m n l = 0) (hl : Lai w g) (hb : loB l.length f t e u = false) : Calls Tryd.prog 18 #[raV m n (.slice (some ⟨b, o, none⟩) l.length cap), loV f t e u] w fun e w' => e = .returned (.tuple #[.bool false, errV g 3]) ∧ Gr w w' := by
  have F := hidb (KG.new w (.int .i64 m) (.int .i64 n) (.slice (some ⟨b, o, none⟩) l.length cap) (.int .i64 f) (.int .i64 t) (.int .i64 e) (.int .i64 u) 35 50)
  have C1 := hidb (right_any g f t e u _ (h.below F.out.gr.out) ok hv (hl.below F.out.gr.out))
  rw [hb, if_neg (by decide)] at C1
  generalize l.length = N at *
  clear h ok hl hv hb
  go_enter Tryd.func18, Tryd.ntmps18
  obtain ⟨q0, q1, q2⟩ := F.out.a0.c3
  obtain ⟨r0, r1, r2, r3⟩ := F.out.a1.c4
  go_wp2_with fail
  refine C1.out.mono ?_
  rintro ee w1 ⟨rfl, hB⟩
  have G := hidb (Gr.step F.out.gr hB.out)
  clear hB F q0 q1 q2 C1 r0 r1 r2 r3
  go_wp2
  go_ret2
  exact ⟨rfl, G.out⟩
set_option maxRecDepth 4000 in
set_option maxHeartbeats 4000000 in
theorem sees_ok (g : Nat → Addr) {m n b o cap f t : Nat} {l : List Int} (fI tI e u : Int) (hfI : fI = (f : Int)) (htI : tI = (t : Int)) (w : World) (h : Rs w b o cap l) (ok : Ok l m n) (hv : vcode m n l = 0) (hl : Lai w g) (hb : loB l.length fI tI e u = true) : Calls Tryd.prog 18 #[raV m n (.slice (some ⟨b, o, none⟩) l.length cap), loV fI tI e u] w fun ee w' => ee = .returned (.tuple #[.bool (decide (seeP l m n f t e u)), .nilIface]) ∧ Gr w w' := by
  obtain ⟨⟨hf, ht⟩, he, hu⟩ := loB_yes hb
  have hf' : f < l.length := by omega
  have ht' : t < l.length := by omega
  have F := hidb (KG.new w (.int .i64 m) (.int .i64 n) (.slice (some ⟨b, o, none⟩) l.length cap) (.int .i64 fI) (.int .i64 tI) (.int .i64 e) (.int .i64 u) 35 50)
  have C1 := hidb (right_any g fI tI e u _ (h.below F.out.gr.out) ok hv (hl.below F.out.gr.out))
  rw [hb, if_pos rfl] at C1
  have C2 := hidb (fun W (hG : Gr w W) => lineOf_any e u W (h.below hG.out) ok hf' ht' he hu)
  have C3 := hidb (fun W (hG : Gr w W) => free_any (gl l f + e) (gl l t + u) W (h.below hG.out) ok (ok.div hf').1 (ok.div ht').1 (ok.div hf').2 (ok.div ht').2 (hiE_add (ok.hi f) he.1 he.2) (hiE_add (ok.hi t) hu.1 hu.2))
  rw [show decide (frK l m n (f % m) (f / m) (t % m) (t / m) (gl l f + e) (gl l t + u)) = decide (seeP l m n f t e u) from decide_eq_decide.2 Iff.rfl] at C3
  rw [← hfI, ← htI] at C2
  generalize decide (seeP l m n f t e u) = bb at *
  generalize ((f % m : Nat) : Int) = k1 at *
  generalize ((f / m : Nat) : Int) = k2 at *
  generalize ((t % m : Nat) : Int) - k1 = k3 at *
  generalize ((t / m : Nat) : Int) - k2 = k4 at *
  generalize gl l f + e = k5 at *
  generalize gl l t + u = k6 at *
  generalize l.length = N at *
  clear h ok hl hv hb hfI htI hf ht he hu hf' ht'
  go_enter Tryd.func18, Tryd.ntmps18
  obtain ⟨q0, q1, q2⟩ := F.out.a0.c3
  obtain ⟨r0, r1, r2, r3⟩ := F.out.a1.c4
  go_wp2_with fail
  refine C1.out.mono ?_
  rintro ee w1 ⟨rfl, hB⟩
  replace F := hidb (F.out.below hB.out)
  clear hB q0 q1 q2 C1 r0 r1 r2 r3
  obtain ⟨q0, q1, q2⟩ := F.out.a0.c3
  obtain ⟨r0, r1, r2, r3⟩ := F.out.a1.c4
  go_wp2_with fail
  refine (C2.out _ F.out.gr).mono ?_
  rintro ee w2 ⟨rfl, hB⟩
  replace F := hidb (F.out.below hB.out)
  clear hB q0 q1 q2 C2 r0 r1 r2 r3
  go_wp2_with fail
  refine (C3.out _ F.out.gr).mono ?_
  rintro ee w3 ⟨rfl, hB⟩
  have G := hidb (Gr.step F.out.gr hB.out)
  clear hB F C3
  go_wp2
  go_ret2
  exact ⟨rfl, G.out⟩
/-- Three boxes of Need. -/
structure KM (w W : World) (B : Nat) (k0 k1 k2 : List Value) : Prop where
  a0 : At W B k0
  a1 : At W (B + 1) k1
  a2 : At W (B + 1 + 1) k2
  gr : Gr w W
theorem KM.below {w W w' : World} {B : Nat} {k0 k1 k2 : List Value} (h : KM w W B k0 k1 k2) (hB : Below W.heap.size W w') : KM w w' B k0 k1 k2 := ⟨h.a0.below hB, h.a1.below hB, h.a2.below hB, Gr.step h.gr hB⟩
theorem KM.new (w : World) (a b c d e f g : Value) (t t' t'' : Nat) : KM w (((w.alloc (.cells #[a, b, c] t)).alloc (.cells #[d, e, f, g] t')).alloc (.cells #[.int .i64 0, .int .i64 0] t'')) w.heap.size [a, b, c] [d, e, f, g] [.int .i64 0, .int .i64 0] :=
  ⟨((At.new3 w a b c t).alloc _).alloc _, (At.nx4 _ d e f g t').alloc _, At.ny2 _ _ _ _ t'', (((Gr.refl w).alloc _).alloc _).alloc _⟩
theorem KM.fill {w W : World} {B : Nat} {k0 k1 : List Value} {x y : Value} (h : KM w W B k0 k1 [x, y]) (hB : w.heap.size ≤ B) (p q : Value) : Gr w ((W.setCell ⟨B + 1 + 1, 0, none⟩ p).setCell ⟨B + 1 + 1, 1, none⟩ q) := (h.gr.set (by omega) _ _).set (by omega) _ _
set_option maxRecDepth 4000 in
set_option maxHeartbeats 4000000 in
theorem need_no (g : Nat → Addr) {W H : Int} {ad : Option Addr} {b o cap : Nat} {l : List Int} (f t e u : Int) (w : World) (h : ISl w ad b o cap l) (ll : l.length ≤ 20000) (hl : Lai w g) (hv : ¬ vcode W H l = 0) : Calls Tryd.prog 27 #[raV W H (.slice ad l.length cap), loV f t e u] w fun e w' => e = .returned (.tuple #[.agg #[.int .i64 0, .int .i64 0], errV g (vcode W H l - 1)]) ∧ Gr w w' := by
  have F := hidb (KM.new w (.int .i64 W) (.int .i64 H) (.slice ad l.length cap) (.int .i64 f) (.int .i64 t) (.int .i64 e) (.int .i64 0) 35 50 28)
  have C1 := hidb (right_no g f t e 0 _ (h.below F.out.gr.out) ll (hl.below F.out.gr.out) hv)
  generalize vcode W H l - 1 = ei at *
  clear h ll hl hv
  go_enter Tryd.func27, Tryd.ntmps27
  go_upto_region 2 with fail
  obtain ⟨q0, q1, q2⟩ := F.out.a0.c3
  obtain ⟨r0, r1, r2, r3⟩ := F.out.a1.c4
  go_wp2_with fail
  refine C1.out.mono ?_
  rintro ee w1 ⟨rfl, hB⟩
  have E := F.out.below hB.out
  clear hB F q0 q1 q2 C1 r0 r1 r2 r3
  obtain ⟨z0, z1⟩ := E.a2.c2
  obtain ⟨f0, f1⟩ := E.a2.f2
  go_wp2
  refine bodyPost_ret (v := .tuple #[.agg #[.int .i64 0, .int .i64 0], errV g ei]) (by simp [results, Tryd.results27, go_sem, z0, z1]) rfl ⟨rfl, ?_⟩
  exact E.fill (Nat.le_refl _) _ _
set_option maxRecDepth 4000 in
set_option maxHeartbeats 4000000 in
theorem need_bad (g : Nat → Addr) {m n b o cap : Nat} {l : List Int} (f t e u : Int) (w : World) (h : Rs w b o cap l) (ok : Ok l m n) (hv : vcode m n l = 0) (hl : Lai w g) (hb : loB l.length f t e 0 = false) : Calls Tryd.prog 27 #[raV m n (.slice (some ⟨b, o, none⟩) l.length cap), loV f t e u] w fun e w' => e = .returned (.tuple #[.agg #[.int .i64 0, .int .i64 0], errV g 3]) ∧ Gr w w' := by
  have F := hidb (KM.new w (.int .i64 m) (.int .i64 n) (.slice (some ⟨b, o, none⟩) l.length cap) (.int .i64 f) (.int .i64 t) (.int .i64 e) (.int .i64 0) 35 50 28)
  have C1 := hidb (right_any g f t e 0 _ (h.below F.out.gr.out) ok hv (hl.below F.out.gr.out))
  rw [hb, if_neg (by decide)] at C1
  generalize l.length = N at *
  clear h ok hl hv hb
  go_enter Tryd.func27, Tryd.ntmps27
  go_upto_region 2 with fail
  obtain ⟨q0, q1, q2⟩ := F.out.a0.c3
  obtain ⟨r0, r1, r2, r3⟩ := F.out.a1.c4
  go_wp2_with fail
  refine C1.out.mono ?_
  rintro ee w1 ⟨rfl, hB⟩
  have E := F.out.below hB.out
  clear hB F q0 q1 q2 C1 r0 r1 r2 r3
  obtain ⟨z0, z1⟩ := E.a2.c2
  obtain ⟨f0, f1⟩ := E.a2.f2
  go_wp2
  refine bodyPost_ret (v := .tuple #[.agg #[.int .i64 0, .int .i64 0], errV g 3]) (by simp [results, Tryd.results27, go_sem, z0, z1]) rfl ⟨rfl, ?_⟩
  exact E.fill (Nat.le_refl _) _ _
set_option maxRecDepth 4000 in
set_option maxHeartbeats 4000000 in
theorem need_ok (g : Nat → Addr) {m n b o cap f t : Nat} {l : List Int} (fI tI e u : Int) (hfI : fI = (f : Int)) (htI : tI = (t : Int)) (w : World) (h : Rs w b o cap l) (ok : Ok l m n) (hv : vcode m n l = 0) (hl : Lai w g) (hb : loB l.length fI tI e 0 = true) : Calls Tryd.prog 27 #[raV m n (.slice (some ⟨b, o, none⟩) l.length cap), loV fI tI e u] w fun ee w' => ee = .returned (.tuple #[.agg #[.int .i64 (ndN (nedS l m n f t e)), .int .i64 (ndD (nedS l m n f t e))], .nilIface]) ∧ Gr w w' := by
  obtain ⟨⟨hf, ht⟩, he, hu⟩ := loB_yes hb
  have hf' : f < l.length := by omega
  have ht' : t < l.length := by omega
  have F := hidb (KM.new w (.int .i64 m) (.int .i64 n) (.slice (some ⟨b, o, none⟩) l.length cap) (.int .i64 fI) (.int .i64 tI) (.int .i64 e) (.int .i64 0) 35 50 28)
  have C1 := hidb (right_any g fI tI e 0 _ (h.below F.out.gr.out) ok hv (hl.below F.out.gr.out))
  rw [hb, if_pos rfl] at C1
  have C2 := hidb (fun W (hG : Gr w W) => lineOf_any e 0 W (h.below hG.out) ok hf' ht' he hu)
  have C3 := hidb (fun W (hG : Gr w W) => need_any (gl l f + e) (gl l t + 0) W (h.below hG.out) ok (ok.div hf').1 (ok.div ht').1 (ok.div hf').2 (ok.div ht').2 (hiE_add (ok.hi f) he.1 he.2) (hiE_add (ok.hi t) hu.1 hu.2))
  rw [Int.add_zero] at C2 C3
  rw [show ndK (lkK l m n (f % m) (f / m) (t % m) (t / m) (gl l f + e) (gl l t)) (sts (f % m) (f / m) (t % m) (t / m)) = nedS l m n f t e from rfl] at C3
  rw [← hfI, ← htI] at C2
  generalize ndN (nedS l m n f t e) = fn at *
  generalize ndD (nedS l m n f t e) = fd at *
  generalize ((f % m : Nat) : Int) = k1 at *
  generalize ((f / m : Nat) : Int) = k2 at *
  generalize ((t % m : Nat) : Int) - k1 = k3 at *
  generalize ((t / m : Nat) : Int) - k2 = k4 at *
  generalize gl l f + e = k5 at *
  generalize gl l t = k6 at *
  generalize l.length = N at *
  clear h ok hl hv hb hfI htI hf ht he hu hf' ht'
  go_enter Tryd.func27, Tryd.ntmps27
  go_upto_region 2 with fail
  obtain ⟨q0, q1, q2⟩ := F.out.a0.c3
  obtain ⟨r0, r1, r2, r3⟩ := F.out.a1.c4
  go_wp2_with fail
  refine C1.out.mono ?_
  rintro ee w1 ⟨rfl, hB⟩
  replace F := hidb (F.out.below hB.out)
  clear hB q0 q1 q2 C1 r0 r1 r2 r3
  obtain ⟨q0, q1, q2⟩ := F.out.a0.c3
  obtain ⟨r0, r1, r2, r3⟩ := F.out.a1.c4
  go_wp2_with fail
  refine (C2.out _ F.out.gr).mono ?_
  rintro ee w2 ⟨rfl, hB⟩
  replace F := hidb (F.out.below hB.out)
  clear hB q0 q1 q2 C2 r0 r1 r2 r3
  go_wp2_with fail
  refine (C3.out _ F.out.gr).mono ?_
  rintro ee w3 ⟨rfl, hB⟩
  have E := F.out.below hB.out
  clear hB F C3
  obtain ⟨z0, z1⟩ := E.a2.c2
  obtain ⟨f0, f1⟩ := E.a2.f2
  go_wp2
  refine bodyPost_ret (v := .tuple #[.agg #[.int .i64 fn, .int .i64 fd], .nilIface]) (by simp [results, Tryd.results27, go_sem, z0, z1]) rfl ⟨rfl, ?_⟩
  exact E.fill (Nat.le_refl _) _ _
end Go.Proofs.YtpdiefmmenfpaaaDoor
