/-
  Points and pieces: shape.turn, near, has, holds, within, small; mercatorref3.IsPlace, mercatorref5.Turn.
-/
import Derived.Test.YtnadgoomkaldkaaDoorQGlA
import Derived.BigQuiet
import Derived.Deep.QuietTactic
import Derived.Deep.CutRange
import Derived.Deep.RegionHeld3
import Derived.Deep.RegionHeldLaw
import Derived.Deep.RegionLaw
import Derived.Lib.MinMax
namespace Go.Proofs.YtnadgoomkaldkaaDoor
open Go.RowKit

abbrev Sp := Int × Int
abbrev Pc := Sp × Sp
abbrev sv (p : Sp) : Value := .agg #[.int .i64 p.1, .int .i64 p.2]
abbrev sc (p : Sp) : List Value := [.int .i64 p.1, .int .i64 p.2]
abbrev pv (p : Pc) : Value := .agg #[.int .i64 p.1.1, .int .i64 p.1.2, .int .i64 p.2.1, .int .i64 p.2.2]
abbrev pcs (p : Pc) : List Value := [.int .i64 p.1.1, .int .i64 p.1.2, .int .i64 p.2.1, .int .i64 p.2.2]
/-- A coordinate, a point that is not too great. -/
def okC (x : Int) : Prop := -16777216 ≤ x ∧ x ≤ 16777216
def okS (p : Sp) : Prop := okC p.1 ∧ okC p.2
instance (x : Int) : Decidable (okC x) := by unfold okC; exact inferInstance
instance (p : Sp) : Decidable (okS p) := by unfold okS; exact inferInstance
theorem wr_in {z : Int} (h1 : -9223372036854775808 ≤ z) (h2 : z ≤ 9223372036854775807) : IntKind.i64.wrap z = z := by rw [IntKind.wrap_i64]; omega
theorem ml_bd {a b A B : Int} (h1 : -A ≤ a) (h2 : a ≤ A) (h3 : -B ≤ b) (h4 : b ≤ B) : -(A * B) ≤ a * b ∧ a * b ≤ A * B := by
  have n1 : 0 ≤ (A - a) * (B + b) := Int.mul_nonneg (by omega) (by omega)
  have n2 : 0 ≤ (A + a) * (B - b) := Int.mul_nonneg (by omega) (by omega)
  have n3 : 0 ≤ (A - a) * (B - b) := Int.mul_nonneg (by omega) (by omega)
  have n4 : 0 ≤ (A + a) * (B + b) := Int.mul_nonneg (by omega) (by omega)
  have e1 : (A - a) * (B + b) = A * B + A * b - a * B - a * b := by grind
  have e2 : (A + a) * (B - b) = A * B - A * b + a * B - a * b := by grind
  have e3 : (A - a) * (B - b) = A * B - A * b - a * B + a * b := by grind
  have e4 : (A + a) * (B + b) = A * B + A * b + a * B + a * b := by grind
  rw [e1] at n1; rw [e2] at n2; rw [e3] at n3; rw [e4] at n4
  constructor <;> omega
/-- The turn at a, from b to c. -/
def tn (a b c : Sp) : Int := (b.1 - a.1) * (c.2 - a.2) - (c.1 - a.1) * (b.2 - a.2)
theorem df_words {x y : Int} (h : okC x) (k : okC y) : ∃ d, d = x - y ∧ IntKind.i64.wrap (x - y) = d ∧ -33554432 ≤ d ∧ d ≤ 33554432 := by
  unfold okC at h k
  exact ⟨x - y, rfl, wr_in (by omega) (by omega), by omega, by omega⟩
theorem pr_words {d e : Int} (h1 : -33554432 ≤ d) (h2 : d ≤ 33554432) (h3 : -33554432 ≤ e) (h4 : e ≤ 33554432) : ∃ m, m = d * e ∧ IntKind.i64.wrap (d * e) = m ∧ -1125899906842624 ≤ m ∧ m ≤ 1125899906842624 := by
  have := ml_bd h1 h2 h3 h4
  exact ⟨d * e, rfl, wr_in (by omega) (by omega), by omega, by omega⟩
theorem tn_words {a b c : Sp} (ha : okS a) (hb : okS b) (hc : okS c) : ∃ d1 d2 d3 d4 m1 m2, IntKind.i64.wrap (b.1 - a.1) = d1 ∧ IntKind.i64.wrap (c.2 - a.2) = d2 ∧ IntKind.i64.wrap (c.1 - a.1) = d3 ∧ IntKind.i64.wrap (b.2 - a.2) = d4 ∧ IntKind.i64.wrap (d1 * d2) = m1 ∧ IntKind.i64.wrap (d3 * d4) = m2 ∧ IntKind.i64.wrap (m1 - m2) = tn a b c := by
  obtain ⟨d1, e1, w1, l1, u1⟩ := df_words hb.1 ha.1
  obtain ⟨d2, e2, w2, l2, u2⟩ := df_words hc.2 ha.2
  obtain ⟨d3, e3, w3, l3, u3⟩ := df_words hc.1 ha.1
  obtain ⟨d4, e4, w4, l4, u4⟩ := df_words hb.2 ha.2
  obtain ⟨m1, f1, v1, p1, q1⟩ := pr_words l1 u1 l2 u2
  obtain ⟨m2, f2, v2, p2, q2⟩ := pr_words l3 u3 l4 u4
  refine ⟨d1, d2, d3, d4, m1, m2, w1, w2, w3, w4, v1, v2, ?_⟩
  rw [wr_in (by omega) (by omega)]
  unfold tn
  rw [f1, f2, e1, e2, e3, e4]
theorem tn_bd {a b c : Sp} (ha : okS a) (hb : okS b) (hc : okS c) : -2251799813685248 ≤ tn a b c ∧ tn a b c ≤ 2251799813685248 := by
  obtain ⟨d1, e1, w1, l1, u1⟩ := df_words hb.1 ha.1
  obtain ⟨d2, e2, w2, l2, u2⟩ := df_words hc.2 ha.2
  obtain ⟨d3, e3, w3, l3, u3⟩ := df_words hc.1 ha.1
  obtain ⟨d4, e4, w4, l4, u4⟩ := df_words hb.2 ha.2
  obtain ⟨m1, f1, v1, p1, q1⟩ := pr_words l1 u1 l2 u2
  obtain ⟨m2, f2, v2, p2, q2⟩ := pr_words l3 u3 l4 u4
  unfold tn
  rw [← e1, ← e2, ← e3, ← e4, ← f1, ← f2]
  omega
/-- The reference's words of it. -/
theorem tr_words {a b c : Sp} (ha : okS a) (hb : okS b) (hc : okS c) : ∃ d1 d2 d3 d4 m1 m2, IntKind.i64.wrap (b.1 - a.1) = d1 ∧ IntKind.i64.wrap (c.2 - b.2) = d2 ∧ IntKind.i64.wrap (b.2 - a.2) = d3 ∧ IntKind.i64.wrap (c.1 - b.1) = d4 ∧ IntKind.i64.wrap (d1 * d2) = m1 ∧ IntKind.i64.wrap (d3 * d4) = m2 ∧ IntKind.i64.wrap (m1 - m2) = tn a b c := by
  obtain ⟨d1, e1, w1, l1, u1⟩ := df_words hb.1 ha.1
  obtain ⟨d2, e2, w2, l2, u2⟩ := df_words hc.2 hb.2
  obtain ⟨d3, e3, w3, l3, u3⟩ := df_words hb.2 ha.2
  obtain ⟨d4, e4, w4, l4, u4⟩ := df_words hc.1 hb.1
  obtain ⟨m1, f1, v1, p1, q1⟩ := pr_words l1 u1 l2 u2
  obtain ⟨m2, f2, v2, p2, q2⟩ := pr_words l3 u3 l4 u4
  refine ⟨d1, d2, d3, d4, m1, m2, w1, w2, w3, w4, v1, v2, ?_⟩
  rw [wr_in (by omega) (by omega)]
  unfold tn
  rw [f1, f2, e1, e2, e3, e4]
  grind
set_option maxHeartbeats 1000000 in
theorem turn_any {a b c : Sp} (ha : okS a) (hb : okS b) (hc : okS c) (w : World) : Calls Tryd.prog 69 #[sv a, sv b, sv c] w fun e w' => e = .returned (.int .i64 (tn a b c)) ∧ Gr w w' := by
  obtain ⟨d1, d2, d3, d4, m1, m2, w1, w2, w3, w4, w5, w6, w7⟩ := tn_words ha hb hc
  generalize tn a b c = t at *
  obtain ⟨a1, a2⟩ := a
  obtain ⟨b1, b2⟩ := b
  obtain ⟨c1, c2⟩ := c
  dsimp only at w1 w2 w3 w4
  clear ha hb hc
  go_enter Tryd.func69, Tryd.ntmps69
  go_wp2
  go_ret
  exact ⟨rfl, (((Gr.refl w).alloc _).alloc _).alloc _⟩
set_option maxHeartbeats 1000000 in
theorem turnOf_any {a b c : Sp} (ha : okS a) (hb : okS b) (hc : okS c) (w : World) : Calls Tryd.prog 32 #[sv a, sv b, sv c] w fun e w' => e = .returned (.int .i64 (tn a b c)) ∧ Gr w w' := by
  obtain ⟨d1, d2, d3, d4, m1, m2, w1, w2, w3, w4, w5, w6, w7⟩ := tr_words ha hb hc
  generalize tn a b c = t at *
  obtain ⟨a1, a2⟩ := a
  obtain ⟨b1, b2⟩ := b
  obtain ⟨c1, c2⟩ := c
  dsimp only at w1 w2 w3 w4
  clear ha hb hc
  go_enter Tryd.func32, Tryd.ntmps32
  go_wp2
  go_ret
  exact ⟨rfl, (((Gr.refl w).alloc _).alloc _).alloc _⟩
/-- Have the boxes around two pieces a point in common? -/
def nrP (p q : Pc) : Prop := (min q.1.1 q.2.1 ≤ max p.1.1 p.2.1 ∧ min p.1.1 p.2.1 ≤ max q.1.1 q.2.1) ∧ min q.1.2 q.2.2 ≤ max p.1.2 p.2.2 ∧ min p.1.2 p.2.2 ≤ max q.1.2 q.2.2
instance (p q : Pc) : Decidable (nrP p q) := by unfold nrP; exact inferInstance
set_option maxRecDepth 4000 in
set_option maxHeartbeats 2000000 in
theorem near_any (p q : Pc) (w : World) : Calls Tryd.prog 62 #[pv p, pv q] w fun e w' => e = .returned (.bool (decide (nrP p q))) ∧ Gr w w' := by
  generalize hr : decide (nrP p q) = r
  obtain ⟨⟨a, b⟩, c, d⟩ := p
  obtain ⟨⟨x, y⟩, u, v⟩ := q
  obtain ⟨m1, h1⟩ : ∃ m, max a c = m := ⟨_, rfl⟩
  obtain ⟨m2, h2⟩ : ∃ m, min x u = m := ⟨_, rfl⟩
  obtain ⟨m3, h3⟩ : ∃ m, max x u = m := ⟨_, rfl⟩
  obtain ⟨m4, h4⟩ : ∃ m, min a c = m := ⟨_, rfl⟩
  obtain ⟨n1, k1⟩ : ∃ m, max b d = m := ⟨_, rfl⟩
  obtain ⟨n2, k2⟩ : ∃ m, min y v = m := ⟨_, rfl⟩
  obtain ⟨n3, k3⟩ : ∃ m, max y v = m := ⟨_, rfl⟩
  obtain ⟨n4, k4⟩ : ∃ m, min b d = m := ⟨_, rfl⟩
  have hi : nrP ((a, b), c, d) ((x, y), u, v) ↔ (m2 ≤ m1 ∧ m4 ≤ m3) ∧ n2 ≤ n1 ∧ n4 ≤ n3 := by
    unfold nrP
    dsimp only
    rw [h1, h2, h3, h4, k1, k2, k3, k4]
  have ht : (m2 ≤ m1 ∧ m4 ≤ m3) ∧ n2 ≤ n1 ∧ n4 ≤ n3 → r = true := fun h => by rw [← hr]; exact decide_eq_true (hi.2 h)
  have hf : ¬ ((m2 ≤ m1 ∧ m4 ≤ m3) ∧ n2 ≤ n1 ∧ n4 ≤ n3) → r = false := fun h => by rw [← hr]; exact decide_eq_false (fun k => h (hi.1 k))
  have HG := hidb (((Gr.refl w).alloc (.cells #[.int .i64 a, .int .i64 b, .int .i64 c, .int .i64 d] 84)).alloc (.cells #[.int .i64 x, .int .i64 y, .int .i64 u, .int .i64 v] 84))
  clear hr hi
  rcases Int.lt_or_le m1 m2 with c1 | c1
  · obtain rfl := hf (fun h => by omega)
    clear ht hf
    go_enter Tryd.func62, Tryd.ntmps62
    go_upto_region 1 with fail
    simp only [List.cons_append, List.nil_append, List.append_eq]
    go_wp2
    go_ret
    exact ⟨rfl, HG.out⟩
  · rcases Int.lt_or_le m3 m4 with c2 | c2
    · obtain rfl := hf (fun h => by omega)
      clear ht hf
      go_enter Tryd.func62, Tryd.ntmps62
      go_upto_region 1 with fail
      simp only [List.cons_append, List.nil_append, List.append_eq]
      go_wp2
      go_ret
      exact ⟨rfl, HG.out⟩
    · rcases Int.lt_or_le n1 n2 with c3 | c3
      · obtain rfl := hf (fun h => by omega)
        clear ht hf
        go_enter Tryd.func62, Tryd.ntmps62
        go_upto_region 1 with fail
        simp only [List.cons_append, List.nil_append, List.append_eq]
        go_wp2
        go_ret
        exact ⟨rfl, HG.out⟩
      · rcases Int.lt_or_le n3 n4 with c4 | c4
        · obtain rfl := hf (fun h => by omega)
          have c4' : ¬ n4 ≤ n3 := by omega
          clear ht hf c4
          go_enter Tryd.func62, Tryd.ntmps62
          go_upto_region 1 with fail
          simp only [List.cons_append, List.nil_append, List.append_eq]
          go_wp2
          go_ret
          exact ⟨rfl, HG.out⟩
        · obtain rfl := ht ⟨⟨c1, c2⟩, c3, c4⟩
          clear ht hf
          go_enter Tryd.func62, Tryd.ntmps62
          go_upto_region 1 with fail
          simp only [List.cons_append, List.nil_append, List.append_eq]
          go_wp2
          go_ret
          exact ⟨rfl, HG.out⟩
/-- A point of a piece. -/
def hsP (p : Pc) (s : Sp) : Prop := tn p.1 p.2 s = 0 ∧ nrP p (s, s)
instance (p : Pc) (s : Sp) : Decidable (hsP p s) := by unfold hsP; exact inferInstance
set_option maxRecDepth 4000 in
set_option maxHeartbeats 2000000 in
theorem has_any {p : Pc} {s : Sp} (h1 : okS p.1) (h2 : okS p.2) (h3 : okS s) (w : World) : Calls Tryd.prog 78 #[pv p, sv s] w fun e w' => e = .returned (.bool (decide (hsP p s))) ∧ Gr w w' := by
  have HT := hidb (fun w => turn_any h1 h2 h3 w)
  have HN := hidb (fun w => near_any p (s, s) w)
  generalize hr : decide (hsP p s) = r
  have ht : tn p.1 p.2 s = 0 → decide (nrP p (s, s)) = r := fun h => by rw [← hr]; unfold hsP; simp [h]
  have hf : ¬ tn p.1 p.2 s = 0 → r = false := fun h => by rw [← hr]; exact decide_eq_false (fun k => h k.1)
  clear hr
  generalize tn p.1 p.2 s = t at *
  generalize decide (nrP p (s, s)) = b at *
  obtain ⟨⟨a1, a2⟩, a3, a4⟩ := p
  obtain ⟨s1, s2⟩ := s
  clear h1 h2 h3
  have FA := (At.new4 w (.int .i64 a1) (.int .i64 a2) (.int .i64 a3) (.int .i64 a4) 84).alloc (.cells #[.int .i64 s1, .int .i64 s2] 52)
  have FB := At.nx2 (W := w) (.cells #[.int .i64 a1, .int .i64 a2, .int .i64 a3, .int .i64 a4] 84) (.int .i64 s1) (.int .i64 s2) 52
  have HG := hidb (((Gr.refl w).alloc (.cells #[.int .i64 a1, .int .i64 a2, .int .i64 a3, .int .i64 a4] 84)).alloc (.cells #[.int .i64 s1, .int .i64 s2] 52))
  by_cases c : t = 0
  · obtain rfl := ht c
    subst c
    clear ht hf
    go_enter Tryd.func78, Tryd.ntmps78
    go_upto_region 1 with fail
    generalize (w.alloc (.cells #[.int .i64 a1, .int .i64 a2, .int .i64 a3, .int .i64 a4] 84)).alloc (.cells #[.int .i64 s1, .int .i64 s2] 52) = W1 at *
    obtain ⟨q0, q1, q2, q3⟩ := FA.c4
    obtain ⟨r0, r1⟩ := FB.c2
    go_wp2_with fail
    refine (HT.out _).mono ?_
    rintro e w2 ⟨rfl, hB⟩
    replace FA := At.below hB.out FA
    replace FB := At.below hB.out FB
    replace HG := hidb (Gr.step HG.out hB.out)
    clear q0 q1 q2 q3 r0 r1 hB
    obtain ⟨q0, q1, q2, q3⟩ := FA.c4
    obtain ⟨r0, r1⟩ := FB.c2
    go_wp2_with fail
    refine (HN.out _).mono ?_
    rintro e w3 ⟨rfl, hB⟩
    go_wp2
    go_ret
    exact ⟨rfl, Gr.step HG.out hB.out⟩
  · obtain rfl := hf c
    clear ht hf
    go_enter Tryd.func78, Tryd.ntmps78
    go_upto_region 1 with fail
    generalize (w.alloc (.cells #[.int .i64 a1, .int .i64 a2, .int .i64 a3, .int .i64 a4] 84)).alloc (.cells #[.int .i64 s1, .int .i64 s2] 52) = W1 at *
    obtain ⟨q0, q1, q2, q3⟩ := FA.c4
    obtain ⟨r0, r1⟩ := FB.c2
    go_wp2_with fail
    refine (HT.out _).mono ?_
    rintro e w2 ⟨rfl, hB⟩
    go_wp2
    go_ret
    exact ⟨rfl, Gr.step HG.out hB.out⟩
theorem swithin_any (n lo hi : Int) (w : World) : Calls Tryd.prog 77 #[.int .i64 n, .int .i64 lo, .int .i64 hi] w fun e w' => e = .returned (.bool (decide (lo ≤ n ∧ n ≤ hi))) ∧ w' = w := by
  by_cases h : lo ≤ n
  · by_cases h2 : n ≤ hi
    all_goals
      go_enter Tryd.func77, Tryd.ntmps77
      go_wp2
      go_ret
      exact ⟨by simp [h, h2], rfl⟩
  · rw [decide_eq_false (show ¬ (lo ≤ n ∧ n ≤ hi) from fun k => h k.1)]
    go_enter Tryd.func77, Tryd.ntmps77
    go_wp2
    go_ret
    exact ⟨rfl, rfl⟩
set_option maxHeartbeats 1000000 in
theorem small_any (s : Sp) (w : World) : Calls Tryd.prog 61 #[sv s] w fun e w' => e = .returned (.bool (decide (okS s))) ∧ Gr w w' := by
  obtain ⟨x, y⟩ := s
  have HW := hidb (swithin_any x (-16777216) 16777216)
  have HV := hidb (swithin_any y (-16777216) 16777216)
  have HG := hidb ((Gr.refl w).alloc (.cells #[.int .i64 x, .int .i64 y] 52))
  generalize hr : decide (okS (x, y)) = r
  have ht : (-16777216 ≤ x ∧ x ≤ 16777216) → decide (-16777216 ≤ y ∧ y ≤ 16777216) = r := fun h => by rw [← hr]; unfold okS okC; simp [h]
  have hf : ¬ (-16777216 ≤ x ∧ x ≤ 16777216) → r = false := fun h => by rw [← hr]; exact decide_eq_false (fun k => h k.1)
  clear hr
  generalize hb : decide (-16777216 ≤ y ∧ y ≤ 16777216) = b at *
  clear hb
  by_cases c : -16777216 ≤ x ∧ x ≤ 16777216
  · rw [decide_eq_true c] at HW
    obtain rfl := ht c
    clear c ht hf
    go_enter Tryd.func61, Tryd.ntmps61
    go_wp2_with fail
    refine (HW.out _).mono ?_
    rintro e w2 ⟨rfl, rfl⟩
    go_wp2_with fail
    refine (HV.out _).mono ?_
    rintro e w3 ⟨rfl, rfl⟩
    go_wp2
    go_ret
    exact ⟨rfl, HG.out⟩
  · rw [decide_eq_false c] at HW
    obtain rfl := hf c
    clear c ht hf
    go_enter Tryd.func61, Tryd.ntmps61
    go_wp2_with fail
    refine (HW.out _).mono ?_
    rintro e w2 ⟨rfl, rfl⟩
    go_wp2
    go_ret
    exact ⟨rfl, HG.out⟩
set_option maxHeartbeats 1000000 in
theorem isPlace_any (s : Sp) (w : World) : Calls Tryd.prog 21 #[sv s] w fun e w' => e = .returned (.bool (decide (okS s))) ∧ Gr w w' := by
  obtain ⟨x, y⟩ := s
  have hG : Gr w (w.alloc (.cells #[.int .i64 x, .int .i64 y] 52)) := (Gr.refl w).alloc _
  generalize hr : decide (okS (x, y)) = r
  have ht : (-16777216 ≤ x ∧ x ≤ 16777216) ∧ -16777216 ≤ y ∧ y ≤ 16777216 → r = true := fun h => by rw [← hr]; exact decide_eq_true h
  have hf : ¬ ((-16777216 ≤ x ∧ x ≤ 16777216) ∧ -16777216 ≤ y ∧ y ≤ 16777216) → r = false := fun h => by rw [← hr]; exact decide_eq_false h
  clear hr
  rcases Int.lt_or_le 16777216 x with c2 | c2
  · obtain rfl := hf (fun h => by omega)
    rcases Int.lt_or_le 16777216 y with c4 | c4
    · clear ht hf
      go_enter Tryd.func21, Tryd.ntmps21
      go_wp2
      go_ret
      exact ⟨rfl, hG⟩
    · rcases Int.lt_or_le y (-16777216) with c3 | c3
      · clear ht hf
        go_enter Tryd.func21, Tryd.ntmps21
        go_wp2
        go_ret
        exact ⟨rfl, hG⟩
      · clear ht hf
        go_enter Tryd.func21, Tryd.ntmps21
        go_wp2
        go_ret
        exact ⟨rfl, hG⟩
  · rcases Int.lt_or_le x (-16777216) with c1 | c1
    · obtain rfl := hf (fun h => by omega)
      rcases Int.lt_or_le 16777216 y with c4 | c4
      · clear ht hf
        go_enter Tryd.func21, Tryd.ntmps21
        go_wp2
        go_ret
        exact ⟨rfl, hG⟩
      · rcases Int.lt_or_le y (-16777216) with c3 | c3
        · clear ht hf
          go_enter Tryd.func21, Tryd.ntmps21
          go_wp2
          go_ret
          exact ⟨rfl, hG⟩
        · clear ht hf
          go_enter Tryd.func21, Tryd.ntmps21
          go_wp2
          go_ret
          exact ⟨rfl, hG⟩
    · rcases Int.lt_or_le 16777216 y with c4 | c4
      · obtain rfl := hf (fun h => by omega)
        clear ht hf
        go_enter Tryd.func21, Tryd.ntmps21
        go_wp2
        go_ret
        exact ⟨rfl, hG⟩
      · rcases Int.lt_or_le y (-16777216) with c3 | c3
        · obtain rfl := hf (fun h => by omega)
          have c3' : ¬ -16777216 ≤ y := by omega
          clear ht hf c3
          go_enter Tryd.func21, Tryd.ntmps21
          go_wp2
          go_ret
          exact ⟨rfl, hG⟩
        · obtain rfl := ht ⟨⟨c1, c2⟩, c3, c4⟩
          clear ht hf
          go_enter Tryd.func21, Tryd.ntmps21
          go_wp2
          go_ret
          exact ⟨rfl, hG⟩
/-- Comparing points, pieces. -/
theorem sp_eq (p q : Sp) (w : World) : (binOp .eql 52 (sv p) (sv q)).run Tryd.prog w = .ok (.bool (decide (p = q))) w := by
  obtain ⟨a, b⟩ := p
  obtain ⟨c, d⟩ := q
  by_cases h : a = c
  · by_cases k : b = d <;> simp [go_sem, h, k]
  · simp [go_sem, h]
theorem sp_ne (p q : Sp) (w : World) : (binOp .neq 52 (sv p) (sv q)).run Tryd.prog w = .ok (.bool (!decide (p = q))) w := by
  obtain ⟨a, b⟩ := p
  obtain ⟨c, d⟩ := q
  by_cases h : a = c
  · by_cases k : b = d <;> simp [go_sem, h, k]
  · simp [go_sem, h]
end Go.Proofs.YtnadgoomkaldkaaDoor
